/-
  The texts RtI, RtJ, RtK, RtL, RtM, RtN, RtO in one. Conditions: as each part says.
-/
import Derived.Test.YteeljcnmgfjcmaaGreatDoorMg8
import Derived.Test.YteeljcnmgfjcmaaGreatDoorMg7
import Derived.Test.YteeljcnmgfjcmaaGreatDoorMg3
import Derived.Test.YteeljcnmgfjcmaaGreatDoorMg5
import Derived.Laws.IdiomArrays
/-
  Two roots in one block; a region that draws its order, with two operations that may come up at a place; package root's Write by its contract. Conditions: none but that the disk lies there.
-/
namespace Go.Proofs.YteeljcnmgfjcmaaGreatDoor
open Go.RowKit Go.Maps
set_option maxRecDepth 100000

section
variable {P : Program}
/-- Cells laid down one behind the other, from j on. -/
def putAll : Array Value → Nat → List Value → Array Value
  | cur, _, [] => cur
  | cur, j, v :: vs => putAll (cur.setIfInBounds j v) (j + 1) vs
theorem setRow_self {w : World} {g : Nat} {cur : Array Value} {t : TypeId} (hg : w.heap[g]? = some (.cells cur t (0, 0))) : w.setRow g cur = w := by
  have hlt : g < w.heap.size := (Array.getElem?_eq_some_iff.1 hg).1
  have hv : w.heap[g] = .cells cur t (0, 0) := (Array.getElem?_eq_some_iff.1 hg).2
  unfold World.setRow
  cases w with
  | mk heap tape drawn os output =>
    congr 1
    apply Array.ext
    · simp
    · intro k h1 h2
      simp only [Array.getElem_modify]
      split
      · rename_i hk; subst hk; simp at hv; simp [hv]
      · rfl
theorem storeCells_at (g off : Nat) (t : TypeId) : ∀ (vs : List Value) (i : Nat) (cur : Array Value) (w : World), w.heap[g]? = some (.cells cur t (0, 0)) → off + i + vs.length ≤ cur.size → (∀ v ∈ vs, v.oneCell' = true) →
    (storeCells ⟨g, off, none⟩ vs i).run P w = .ok () (w.setRow g (putAll cur (off + i) vs))
  | [], i, cur, w, hg, _, _ => by
    simp only [storeCells, putAll, setRow_self hg]
    rfl
  | v :: rest, i, cur, w, hg, hl, h1 => by
    have hi : off + i < cur.size := by simp at hl; omega
    have hcell : w.cell? ⟨g, off + i, none⟩ = some cur[off + i] := by simp [World.cell?, hg, hi]
    have hfro : w.frozen? ⟨g, off + i, none⟩ = false := by simp [World.frozen?, hg]
    have hst : (store ((⟨g, off, none⟩ : Addr).add i) v).run P w = .ok () (w.setRow g (cur.setIfInBounds (off + i) v)) := by
      rw [plainAdd, run_store P w _ v _ (h1 v (by simp)), hcell]
      simp [hfro, setCell_eq_setRow w g (off + i) cur t (0, 0) v hg]
    have ih := storeCells_at g off t rest (i + 1) (cur.setIfInBounds (off + i) v) (w.setRow g (cur.setIfInBounds (off + i) v)) (setRow_heap w g cur _ t _ hg) (by simp at hl ⊢; omega) (fun x hx => h1 x (by simp [hx]))
    simp only [storeCells, Sem.run_bind, hst, Result.andThen_ok, ih, setRow_setRow, putAll, Nat.add_assoc]
end

/-- Block g holds these two roots. -/
def RTwo (w : World) (g : Nat) (a b : Rt) : Prop := w.heap[g]? = some (.cells (rtV a ++ rtV b) 63 (0, 0))
theorem twoZero : ∀ w, (zeroValue 63).run Tryz.prog w = .ok (.agg (rtV zeroR ++ rtV zeroR)) w :=
  (zero_of_info (show (Tryz.prog.info? 63).map (fun i => (i.zero, i.size)) = some (some (.agg (rtV zeroR ++ rtV zeroR)), 18) by kernel_rfl)).1
section
variable {w w' : World} {g : Nat} {a b : Rt}
theorem RTwo.new (w : World) (a b : Rt) : RTwo (w.alloc (.cells (rtV a ++ rtV b) 63)) w.heap.size a b := heap_alloc_new w _
theorem RTwo.lt (h : RTwo w g a b) : g < w.heap.size := (Array.getElem?_eq_some_iff.1 h).1
theorem RTwo.below (h : RTwo w g a b) (hb : Below w.heap.size w w') : RTwo w' g a b := (hb.block g h.lt).trans h
theorem RTwo.trn {T : Nat → Prop} (h : RTwo w g a b) (ht : Trn T w w') (hk : ¬ T g) : RTwo w' g a b := (ht.block g h.lt hk).trans h
theorem load_part {off : Nat} {cs : Array Value} {t : TypeId} {r : Rt} (hg : w.heap[g]? = some (.cells cs t (0, 0))) (hc : ∀ j, j < 9 → cs[off + j]? = (rtV r)[j]?) :
    (loadVar 39 ⟨g, off, none⟩).run Tryz.prog w = .ok (.agg (rtV r)) w := by
  have hl : (loadCells ⟨g, off, none⟩ 9).run Tryz.prog w = .ok (rtV r) w := by
    have := run_loadCells_list (P := Tryz.prog) w ⟨g, off, none⟩ (rtV r).toList (fun j v hv => by
      have hj : j < 9 := by have := (List.getElem?_eq_some_iff.1 hv).1; simpa [rtV_size] using this
      rw [plainAdd, cell_of_row _ _ _ _ _ _ hg, hc j hj]
      simpa using hv)
    simpa [rtV_size] using this
  have hs := rtSize
  cases hq : Tryz.prog.info? 39 with
  | none => rw [hq] at hs; cases hs
  | some i =>
    rw [hq] at hs
    have hsz : i.size = 9 := by simpa using hs
    have hagg : (isAgg 39).run Tryz.prog w = .ok true w := by
      simp [isAgg, run_underlying rtU]
    simp [loadVar, hagg, sizeOf, typeInfo, hq, hsz, hl]
theorem RTwo.load0 (h : RTwo w g a b) : (loadVar 39 ⟨g, 0, none⟩).run Tryz.prog w = .ok (.agg (rtV a)) w := by
  refine load_part h (fun j hj => ?_)
  rw [Nat.zero_add, Array.getElem?_append_left (by rw [rtV_size]; exact hj)]
theorem RTwo.load1 (h : RTwo w g a b) : (loadVar 39 ⟨g, 9, none⟩).run Tryz.prog w = .ok (.agg (rtV b)) w := by
  refine load_part h (fun j hj => ?_)
  rw [Array.getElem?_append_right (by rw [rtV_size]; omega), rtV_size, Nat.add_sub_cancel_left]
theorem store_part {off : Nat} {cs : Array Value} {t : TypeId} (r : Rt) (hg : w.heap[g]? = some (.cells cs t (0, 0))) (ho : off + 9 ≤ cs.size) :
    (storeVar 39 ⟨g, off, none⟩ (.agg (rtV r))).run Tryz.prog w = .ok () (w.setRow g (putAll cs off (rtV r).toList)) := by
  have := storeCells_at (P := Tryz.prog) g off t (rtV r).toList 0 cs w hg (by simp [rtV_size]; omega) (fun v hv => (Array.all_eq_true_iff_forall_mem.1 (rtV_one r)) v (by simpa using hv))
  have hs := rtSize
  cases hq : Tryz.prog.info? 39 with
  | none => rw [hq] at hs; cases hs
  | some i =>
    rw [hq] at hs
    have hsz : i.size = 9 := by simpa using hs
    simp [storeVar, sizeOf, typeInfo, hq, Value.cells, hsz, this, rtV_size]
theorem put_first (a b r : Rt) : putAll (rtV a ++ rtV b) 0 (rtV r).toList = rtV r ++ rtV b := by simp [putAll, rtV]
theorem put_second (a b r : Rt) : putAll (rtV a ++ rtV b) 9 (rtV r).toList = rtV a ++ rtV r := by simp [putAll, rtV]
theorem setRow_trn (w : World) (g : Nat) (cs : Array Value) : Trn (fun k => k = g) w (w.setRow g cs) :=
  ⟨rfl, rfl, rfl, by simp [World.setRow], fun k _ hk => by
    simp only [World.setRow]
    rw [Array.getElem?_modify, if_neg (by omega)]⟩
end
section
variable {ops : Array Oper} {rest : List Oper} {o : Oper} {a : Act} {w : World} {K : Act → World → Prop} {Q : Exit → Act → World → Prop}
theorem wpList_storeTwo0 (hgd : o.guard = none) (x y : Operand) (ho : o.op = .store 39 x y) (g : Nat) (hx : a.eval x = .pointer (some ⟨g, 0, none⟩)) (u : Rt) (hy : a.eval y = .agg (rtV u)) (r s : Rt) (h : RTwo w g r s)
    (hK : ∀ w', RTwo w' g u s → Trn (fun k => k = g) w w' → w'.heap.size = w.heap.size → wpList Tryz.prog ops Q rest (a.put o.dst undef) w') : wpList Tryz.prog ops Q (o :: rest) a w :=
  wpList_plain hgd fun _ hk => by
    unfold Oper.wp execOp
    simp only [ho, hx, hy, Instr.storeAt, Instr.sureAddr, Sem.run_bind, Sem.run_pure, Result.andThen_ok, store_part u h (show 0 + 9 ≤ (rtV r ++ rtV s).size by simp [rtV_size])]
    exact hk _ _ (hK _ (by rw [put_first]; exact setRow_heap w g _ _ _ _ h) (setRow_trn _ _ _) (by simp [World.setRow]))
theorem wpList_storeTwo1 (hgd : o.guard = none) (x y : Operand) (ho : o.op = .store 39 x y) (g : Nat) (hx : a.eval x = .pointer (some ⟨g, 9, none⟩)) (u : Rt) (hy : a.eval y = .agg (rtV u)) (r s : Rt) (h : RTwo w g r s)
    (hK : ∀ w', RTwo w' g r u → Trn (fun k => k = g) w w' → w'.heap.size = w.heap.size → wpList Tryz.prog ops Q rest (a.put o.dst undef) w') : wpList Tryz.prog ops Q (o :: rest) a w :=
  wpList_plain hgd fun _ hk => by
    unfold Oper.wp execOp
    simp only [ho, hx, hy, Instr.storeAt, Instr.sureAddr, Sem.run_bind, Sem.run_pure, Result.andThen_ok, store_part u h (show 9 + 9 ≤ (rtV r ++ rtV s).size by simp [rtV_size])]
    exact hk _ _ (hK _ (by rw [put_second]; exact setRow_heap w g _ _ _ _ h) (setRow_trn _ _ _) (by simp [World.setRow]))
theorem exec_loadTwo0 {u : World} (x : Operand) (ho : o.op = .load 39 x) (g : Nat) (hx : a.eval x = .pointer (some ⟨g, 0, none⟩)) {r s : Rt} (h : RTwo u g r s) :
    (execOp a.eval o).run Tryz.prog u = .ok (.value (.agg (rtV r))) u := by
  unfold execOp
  simp only [ho, hx, Instr.loadAt, Instr.sureAddr, Sem.run_bind, Sem.run_pure, Result.andThen_ok, h.load0]
theorem exec_loadTwo1 {u : World} (x : Operand) (ho : o.op = .load 39 x) (g : Nat) (hx : a.eval x = .pointer (some ⟨g, 9, none⟩)) {r s : Rt} (h : RTwo u g r s) :
    (execOp a.eval o).run Tryz.prog u = .ok (.value (.agg (rtV s))) u := by
  unfold execOp
  simp only [ho, hx, Instr.loadAt, Instr.sureAddr, Sem.run_bind, Sem.run_pure, Result.andThen_ok, h.load1]
/-- The operation that writes a whole root, in a region that draws its order. -/
theorem wp_storeRt (x y : Operand) (ho : o.op = .store 39 x y) (hd : o.dst = none) (g : Nat) (hx : a.eval x = .pointer (some ⟨g, 0, none⟩)) (u : Rt) (hy : a.eval y = .agg (rtV u)) (t : Rt) (h : RBox w g t)
    (hK : ∀ w', RBox w' g u → Trn (fun k => k = g) w w' → w'.heap.size = w.heap.size → K a w') : o.wp Tryz.prog a w K Q := by
  refine wp_store_row 39 x y ho g (rtV u) hx hy 39 (rtV t) h rtSize rfl (rtV_one u) ?_
  rw [hd]
  exact hK _ (setRow_heap w g _ _ _ _ h) (setRow_trn _ _ _) (by simp [World.setRow])
/-- The operation that makes a root's variable. -/
theorem wp_allocRt (ho : o.op = .alloc 39) (d : Option Tmp) (hd : o.dst = d)
    (hK : K (a.put d (.pointer (some ⟨w.heap.size, 0, none⟩))) (w.alloc (.cells (rtV zeroR) 39))) : o.wp Tryz.prog a w K Q := by
  subst hd
  unfold Oper.wp execOp
  simp [ho, go_sem]
  exact hK
end

/-! A region whose order forks. -/
section
variable {P : Program} {ops : Array Oper} {Q : Exit → Act → World → Prop} {md : Region.Mode} {R : World → World → Prop}
/-- A schedule's beginning. -/
def schedTo (md : Region.Mode) (ops : Array Oper) : List (Nat × Bool) → Array Bool → Bool
  | [], _ => true
  | (i, b) :: rest, listed => (if b then Region.ready md ops listed == [i] else Region.free md ops listed i && (Region.ready md ops listed).contains i) && schedTo md ops rest (listed.setIfInBounds i true)
def listTo : List (Nat × Bool) → Array Bool → Array Bool
  | [], listed => listed
  | (i, _) :: rest, listed => listTo rest (listed.setIfInBounds i true)
def wpSchL (P : Program) (ops : Array Oper) (Q : Exit → Act → World → Prop) (R : World → World → Prop) (L : Act → World → Prop) : List (Oper × Bool) → Act → World → Prop
  | [], a, w => L a w
  | (o, true) :: rest, a, w => if Region.wanted o (yielded ops a.tmps) then o.wp P a w (fun a' w' => R w w' ∧ wpSchL P ops Q R L rest a' w') Q else wpSchL P ops Q R L rest (a.put o.dst undef) w
  | (o, false) :: rest, a, w => ∃ v, YieldsIf P ops (R w) o v a ∧ wpSchL P ops Q R L rest (a.put o.dst v) w
theorem held_of_schL (hRf : ∀ x, R x x) (hT : ∀ {x y z}, R x y → R y z → R x z) (hs : Region.noSelect ops = true)
    (hQ : ∀ d v c a w, Q (.panic c) (Act.put a d v) w → Q (.panic c) a w) (fuel : Nat) {L : Act → World → Prop} :
    ∀ (l : List (Nat × Bool)) (listed : Array Bool) (a : Act) (w : World), l.all (fun x => decide (x.1 < ops.size)) = true → schedTo md ops l listed = true →
      (∀ a' w', L a' w' → wpAnyH P md ops Q (R w') fuel (listTo l listed) a' w') → wpSchL P ops Q R L (sel ops l) a w → wpAnyH P md ops Q (R w) (l.length + fuel) listed a w := by
  intro l
  induction l with
  | nil =>
    intro listed a w _ _ hL h
    rw [List.length_nil, Nat.zero_add]
    exact hL a w h
  | cons x l ih =>
    obtain ⟨i, b⟩ := x
    intro listed a w hin hok hL h
    simp only [List.all_cons, Bool.and_eq_true, decide_eq_true_eq] at hin
    obtain ⟨hi, hr⟩ := hin
    obtain ⟨o, ho⟩ : ∃ o, ops[i]? = some o := ⟨_, Array.getElem?_eq_getElem hi⟩
    rw [sel_cons ops i b l o ho] at h
    simp only [schedTo, Bool.and_eq_true] at hok
    obtain ⟨hk, hok⟩ := hok
    rw [List.length_cons, show l.length + 1 + fuel = (l.length + fuel) + 1 by omega]
    cases b with
    | false =>
      simp only [Bool.false_eq_true, if_false, Bool.and_eq_true] at hk
      obtain ⟨v, hy, h⟩ := h
      exact wpAnyH_take ho hs hk.1 hk.2 (fun c a w => hQ _ _ c a w) hy (hRf w) (ih _ _ _ hr hok hL h)
    | true =>
      simp only [if_true, beq_iff_eq] at hk
      refine ⟨fun h0 => (by rw [hk] at h0; cases h0), fun j hj => ?_⟩
      rw [hk] at hj
      have : j = i := by simpa using hj
      subst this
      unfold wpOp
      simp only [ho]
      unfold wpSchL at h
      by_cases hw : Region.wanted o (yielded ops a.tmps) = true
      · rw [if_pos hw] at h ⊢
        exact .inl (Oper.wp_mono (fun a' w' h' => ⟨h'.1, held_mono (fun u hu => hT h'.1 hu) _ _ _ _ (ih _ _ _ hr hok hL h'.2)⟩) h)
      · rw [if_neg hw] at h ⊢
        exact ⟨hRf w, ih _ _ _ hr hok hL h⟩
/-- Two operations may come up: each does. -/
theorem held_fork (hT : ∀ {x y z}, R x y → R y z → R x z) {fuel i j : Nat} {listed : Array Bool} {a : Act} {w : World} {oi oj : Oper} (hr : Region.ready md ops listed = [i, j]) (hi : ops[i]? = some oi) (hj : ops[j]? = some oj)
    (hwi : Region.wanted oi (yielded ops a.tmps) = true) (hwj : Region.wanted oj (yielded ops a.tmps) = true)
    (h1 : ∀ K : Act → World → Prop, (∀ a' w', R w w' → wpAnyH P md ops Q (R w') fuel (listed.setIfInBounds i true) a' w' → K a' w') → oi.wp P a w K Q)
    (h2 : ∀ K : Act → World → Prop, (∀ a' w', R w w' → wpAnyH P md ops Q (R w') fuel (listed.setIfInBounds j true) a' w' → K a' w') → oj.wp P a w K Q) : wpAnyH P md ops Q (R w) (fuel + 1) listed a w := by
  refine ⟨fun h0 => (by rw [hr] at h0; cases h0), fun k hk => ?_⟩
  rw [hr] at hk
  rcases List.mem_cons.1 hk with rfl | hk
  · unfold wpOp
    simp only [hi]
    rw [if_pos hwi]
    exact .inl (h1 _ fun a' w' r h => ⟨r, held_mono (fun u hu => hT r hu) _ _ _ _ h⟩)
  · have : k = j := by simpa using hk
    subst this
    unfold wpOp
    simp only [hj]
    rw [if_pos hwj]
    exact .inl (h2 _ fun a' w' r h => ⟨r, held_mono (fun u hu => hT r hu) _ _ _ _ h⟩)
/-! The moves. -/
theorem schL_nil {L : Act → World → Prop} {a : Act} {w : World} (h : L a w) : wpSchL P ops Q R L [] a w := h
theorem schL_take {L : Act → World → Prop} {o : Oper} {rest : List (Oper × Bool)} {a : Act} {w : World} (v : Value) (hw : Region.wanted o (yielded ops a.tmps) = true)
    (hv : ∀ u, R w u → (execOp a.eval o).run P u = .ok (.value v) u) (h : wpSchL P ops Q R L rest (a.put o.dst v) w) : wpSchL P ops Q R L ((o, false) :: rest) a w :=
  ⟨v, .inl ⟨hw, hv⟩, h⟩
theorem schL_call {L : Act → World → Prop} {o : Oper} {rest : List (Oper × Bool)} {a : Act} {w : World} (hw : Region.wanted o (yielded ops a.tmps) = true)
    (h : ∀ K : Act → World → Prop, (∀ a' w', R w w' → wpSchL P ops Q R L rest a' w' → K a' w') → o.wp P a w K Q) : wpSchL P ops Q R L ((o, true) :: rest) a w := by
  unfold wpSchL
  rw [if_pos hw]
  exact h _ fun a' w' h1 h2 => ⟨h1, h2⟩
/-- THE BEGINNING: a part of the operations by a schedule, then L. -/
theorem wp_region_L {id : Nat} {a : Act} {w : World} (hm : P.follows .mixedOrders = true) (hRf : ∀ x, R x x) (hT : ∀ {x y z}, R x y → R y z → R x z) (hs : Region.noSelect ops = true)
    (hQ : ∀ d v c a w, Q (.panic c) (Act.put a d v) w → Q (.panic c) a w) (l : List (Nat × Bool)) (fuel : Nat) (hl : l.length + fuel = ops.size) (hok : schedTo .any ops l (Array.replicate ops.size false) = true)
    (hin : l.all (fun x => decide (x.1 < ops.size)) = true) {L : Act → World → Prop} (hL : ∀ a' w', L a' w' → wpAnyH P .any ops Q (R w') fuel (listTo l (Array.replicate ops.size false)) a' w') (h : wpSchL P ops Q R L (sel ops l) a w.drew) : (Code.region id ops true).wp P Q a w := by
  refine wp_region_held (S := R w.drew) hm ?_
  have := held_of_schL (P := P) (md := .any) (R := R) hRf hT hs hQ fuel l (Array.replicate ops.size false) a w.drew hin hok hL h
  rw [hl] at this
  exact this
end
end Go.Proofs.YteeljcnmgfjcmaaGreatDoor

/-
  Package root: Write by its contract. Conditions: none but that the disk lies there, and that a root's numbers are those of 64 bits.
-/
namespace Go.Proofs.YteeljcnmgfjcmaaGreatDoor
open Go.RowKit Go.Maps
set_option maxRecDepth 100000

theorem done_up {w w5 w9 : World} {S : Nat → Prop} {d : Nat} {r : Nat × St} {e : Ending} (hS : ∀ k, S k → k < w.heap.size) (hb : Below w.heap.size w w5) (h : Done w5 S d r e w9) : Done w S d r e w9 :=
  ⟨h.1, h.2.1.wide (fun _ hk => hk.elim .inl (fun x => .inr ⟨Nat.le_trans hb.size x.1, x.2⟩)) (more_lt (Nat.le_trans hb.size h.2.2.size) hS), (Trn.of_below hb : Trn S w w5).trans h.2.2 (fun _ _ h => h)⟩
theorem done_quiet {w w5 : World} {S : Nat → Prop} {d n : Nat} {s : St} (h : Dsk w S d s) (hb : Below w.heap.size w w5) : Done w S d (n, s) (.returned (.int .i64 (n : Int))) w5 :=
  ⟨rfl, (h.below hb).more hb.size h.lt, Trn.of_below hb⟩
theorem own_ge {w : World} {B : Nat} {e : TypeId} {v : Value} {l : List UInt8} (h : Own w B e v l) {k : Nat} (hk : v.ownBlock = some k) : B ≤ k := by
  rcases h.2 with ⟨rfl, _⟩ | ⟨g, cap, cur, rfl, hb, _⟩
  · cases hk
  · simp [Value.ownBlock] at hk
    omega
/-- A root written to its slot. -/
def writeP (s : St) (r : Rt) : Nat × St := if okR r then (if r.p = secs s / 8 then saveP s ((r.e % 2 : Nat) : Int) (rootB r) else (2, s)) else (2, s)
theorem rwrite_nil (w : World) (r : Rt) : Calls Tryz.prog 8 #[.pointer none, .agg (rtV r)] w (IntE w 1) := by
  have HB := Lib.hid (below_new w (.cells (rtV r) 39))
  go_enter Tryz.func8, Tryz.ntmps8
  go_wp2_with fail
  refine (ismade_nil _).mono ?_
  rintro e w1 ⟨rfl, rfl⟩
  go_wp2_with fail
  go_ret
  exact ⟨rfl, HB.out⟩
set_option maxRecDepth 100000 in
set_option maxHeartbeats 4000000 in
theorem rwrite_is (w : World) (S : Nat → Prop) (d : Nat) (s : St) (r : Rt) (h : Dsk w S d s) (hwf : r.Wf) :
    Calls Tryz.prog 8 #[.pointer (some ⟨d, 0, none⟩), .agg (rtV r)] w (Done w S d (writeP s r)) := by
  obtain ⟨w0, hw0⟩ : ∃ w0, w.alloc (.cells (rtV r) 39) = w0 := ⟨_, rfl⟩
  have HX0 : Hid (RBox w0 w.heap.size r) := hw0 ▸ RBox.new w r
  have HB0 : Hid (Below w.heap.size w w0) := hw0 ▸ below_new w _
  have HW0 := Lib.hid hw0
  have H := Lib.hid h
  have HF := Lib.hid hwf
  clear hw0 h hwf
  by_cases hok : okR r
  · by_cases hp : r.p = secs s / 8
    · have hq : writeP s r = saveP s ((r.e % 2 : Nat) : Int) (rootB r) := by unfold writeP; rw [if_pos hok, if_pos hp]
      rw [hq]
      clear hq
      have hp1 : IntKind.u64.wrap (r.p : Int) = (r.p : Int) := by rw [IntKind.wrap_u64]; have := HF.out.p; omega
      have HP := Lib.hid hp
      clear hp
      generalize hQ : saveP s ((r.e % 2 : Nat) : Int) (rootB r) = q
      have HQ := Lib.hid hQ
      clear hQ
      go_enter Tryz.func8, Tryz.ntmps8
      go_wp2_with fail
      rw [HW0.out]
      refine (ismade_is _ S d s (H.out.below HB0.out)).mono ?_
      rintro e w1 ⟨rfl, rfl⟩
      go_wp2_with (with_reducible (show wpList _ _ _ (⟨_, Op.load 39 _, _, _, _, _⟩ :: _) _ _); refine wpList_loadRt rfl _ rfl _ rfl _ HX0.out ?_)
      refine (rbytes_ok _ r HF.out hok).mono ?_
      rintro e w2 ⟨v2, rfl, hown2, hb2⟩
      have HX2 : Hid (RBox w2 w.heap.size r) := HX0.out.below hb2
      have HB2 := Lib.hid (HB0.out.trans (hb2.mono HB0.out.size))
      have HO2 := Lib.hid (hown2.lower HB0.out.size)
      have HD2 := Lib.hid (H.out.below HB2.out)
      obtain ⟨A2, n2, c2, rfl, N2, hnc2, hcm2⟩ := hown2.byt.form
      clear hown2 hb2
      go_wp2_with fail
      refine wp_region_R (R := fun x y => x = y) (by kernel_rfl) (fun _ => rfl) (fun h k => h.trans k) (by kernel_rfl) (fun d v c a w h => by cases d <;> exact h)
        [(0, false), (1, false), (2, false), (3, true), (4, false), (5, false)] rfl (by kernel_rfl) (by kernel_rfl) ?_
      simp only [sel, List.getElem?_toArray, List.getElem?_cons_succ, List.getElem?_cons_zero]
      have HXd : Hid (RBox w2.drew w.heap.size r) := HX2.out
      have HBd : Hid (Below w.heap.size w w2.drew) := HB2.out.drew
      have HOd : Hid (Own w2.drew w.heap.size 5 (.slice A2 n2 c2) (rootB r)) := HO2.out
      have HDd := Lib.hid (H.out.below HBd.out)
      clear HX2 HB2 HO2 HD2
      generalize w2.drew = wd at *
      (refine sch_take ?_ rfl ?_ ?_; rotate_left; (focus (intro u hu; go_simp <;> rfl)); simp only [Act.put, List.setIfInBounds_toArray, List.set_cons_zero, List.set_cons_succ])
      (refine sch_take ?_ rfl ?_ ?_; rotate_left; (focus (intro u hu; subst hu; have cc := HXd.out.cells.2.1; go_simp <;> rfl)); simp only [Act.put, List.setIfInBounds_toArray, List.set_cons_zero, List.set_cons_succ])
      (refine sch_take ?_ rfl ?_ ?_; rotate_left; (focus (intro u hu; go_simp <;> rfl)); simp only [Act.put, List.setIfInBounds_toArray, List.set_cons_zero, List.set_cons_succ])
      refine sch_call rfl ?_
      intro K hK
      go_simp
      refine (pages_is _ S d s HDd.out).mono ?_
      rintro e w3 ⟨rfl, rfl⟩
      rw [← HP.out]
      go_wp2_with fail
      refine hK _ _ rfl ?_
      clear hK K
      (refine sch_take (.int .u64 (r.p : Int)) rfl ?_ ?_; (focus (intro u hu; clear hu; go_simp <;> rfl)); simp only [Act.put, List.setIfInBounds_toArray, List.set_cons_zero, List.set_cons_succ])
      (refine sch_take (.bool false) rfl ?_ ?_; (focus (intro u hu; clear hu; go_simp <;> rfl)); simp only [Act.put, List.setIfInBounds_toArray, List.set_cons_zero, List.set_cons_succ])
      refine sch_nil ?_
      go_wp2_with (with_reducible (show wpList _ _ _ (⟨_, Op.load 39 _, _, _, _, _⟩ :: _) _ _); refine wpList_loadRt rfl _ rfl _ rfl _ HXd.out ?_)
      refine (rslot_any _ r).mono ?_
      rintro e w4 ⟨rfl, hb4⟩
      have HB4 := Lib.hid (HBd.out.trans (hb4.mono HBd.out.size))
      have HO4 := Lib.hid (Own.keep HOd.out hb4)
      have HD4 := Lib.hid (HDd.out.below hb4)
      clear hb4
      go_wp2_with fail
      have hs := save_is _ S d s ((r.e % 2 : Nat) : Int) _ _ HD4.out HO4.out.byt (fun k hk hS => by have := H.out.lt k hS; have := own_ge HO4.out hk; omega) (fun k hk => by obtain ⟨cur, hc⟩ := ownsRow_block (HO4.out.lower (Nat.zero_le _)) hk; exact (Array.getElem?_eq_some_iff.1 hc).1)
      refine hs.mono ?_
      rintro e w5 hdn
      rw [HQ.out] at hdn
      have HDN := Lib.hid (done_up H.out.lt HB4.out hdn)
      obtain ⟨rfl, _, _⟩ := hdn
      go_wp2_with fail
      go_ret
      exact HDN.out
    · have hq : writeP s r = (2, s) := by unfold writeP; rw [if_pos hok, if_neg hp]
      rw [hq]
      clear hq
      have hp1 : IntKind.u64.wrap ((secs s / 8 : Nat) : Int) = ((secs s / 8 : Nat) : Int) := by rw [IntKind.wrap_u64]; have := H.out.ok.few; omega
      have hp2 : ((r.p : Int) == ((secs s / 8 : Nat) : Int)) = false := ne_int hp
      clear hp
      go_enter Tryz.func8, Tryz.ntmps8
      go_wp2_with fail
      rw [HW0.out]
      refine (ismade_is _ S d s (H.out.below HB0.out)).mono ?_
      rintro e w1 ⟨rfl, rfl⟩
      go_wp2_with (with_reducible (show wpList _ _ _ (⟨_, Op.load 39 _, _, _, _, _⟩ :: _) _ _); refine wpList_loadRt rfl _ rfl _ rfl _ HX0.out ?_)
      refine (rbytes_ok _ r HF.out hok).mono ?_
      rintro e w2 ⟨v2, rfl, hown2, hb2⟩
      have HX2 : Hid (RBox w2 w.heap.size r) := HX0.out.below hb2
      have HB2 := Lib.hid (HB0.out.trans (hb2.mono HB0.out.size))
      have HO2 := Lib.hid (hown2.lower HB0.out.size)
      have HD2 := Lib.hid (H.out.below HB2.out)
      obtain ⟨A2, n2, c2, rfl, N2, hnc2, hcm2⟩ := hown2.byt.form
      clear hown2 hb2
      go_wp2_with fail
      refine wp_region_R (R := fun x y => x = y) (by kernel_rfl) (fun _ => rfl) (fun h k => h.trans k) (by kernel_rfl) (fun d v c a w h => by cases d <;> exact h)
        [(0, false), (1, false), (2, false), (3, true), (4, false), (5, false)] rfl (by kernel_rfl) (by kernel_rfl) ?_
      simp only [sel, List.getElem?_toArray, List.getElem?_cons_succ, List.getElem?_cons_zero]
      have HXd : Hid (RBox w2.drew w.heap.size r) := HX2.out
      have HBd : Hid (Below w.heap.size w w2.drew) := HB2.out.drew
      have HOd : Hid (Own w2.drew w.heap.size 5 (.slice A2 n2 c2) (rootB r)) := HO2.out
      have HDd := Lib.hid (H.out.below HBd.out)
      clear HX2 HB2 HO2 HD2
      generalize w2.drew = wd at *
      (refine sch_take ?_ rfl ?_ ?_; rotate_left; (focus (intro u hu; go_simp <;> rfl)); simp only [Act.put, List.setIfInBounds_toArray, List.set_cons_zero, List.set_cons_succ])
      (refine sch_take ?_ rfl ?_ ?_; rotate_left; (focus (intro u hu; subst hu; have cc := HXd.out.cells.2.1; go_simp <;> rfl)); simp only [Act.put, List.setIfInBounds_toArray, List.set_cons_zero, List.set_cons_succ])
      (refine sch_take ?_ rfl ?_ ?_; rotate_left; (focus (intro u hu; go_simp <;> rfl)); simp only [Act.put, List.setIfInBounds_toArray, List.set_cons_zero, List.set_cons_succ])
      refine sch_call rfl ?_
      intro K hK
      go_simp
      refine (pages_is _ S d s HDd.out).mono ?_
      rintro e w3 ⟨rfl, rfl⟩
      generalize secs s / 8 = pg at *
      go_wp2_with fail
      refine hK _ _ rfl ?_
      clear hK K
      (refine sch_take (.int .u64 (pg : Int)) rfl ?_ ?_; (focus (intro u hu; clear hu; go_simp <;> rfl)); simp only [Act.put, List.setIfInBounds_toArray, List.set_cons_zero, List.set_cons_succ])
      (refine sch_take (.bool true) rfl ?_ ?_; (focus (intro u hu; clear hu; go_simp; exact beq_eq_false_iff_ne.1 hp2)); simp only [Act.put, List.setIfInBounds_toArray, List.set_cons_zero, List.set_cons_succ])
      refine sch_nil ?_
      go_wp2_with fail
      go_ret
      exact done_quiet H.out HBd.out
  · have hq : writeP s r = (2, s) := by unfold writeP; rw [if_neg hok]
    rw [hq]
    clear hq
    go_enter Tryz.func8, Tryz.ntmps8
    go_wp2_with fail
    rw [HW0.out]
    refine (ismade_is _ S d s (H.out.below HB0.out)).mono ?_
    rintro e w1 ⟨rfl, rfl⟩
    go_wp2_with (with_reducible (show wpList _ _ _ (⟨_, Op.load 39 _, _, _, _, _⟩ :: _) _ _); refine wpList_loadRt rfl _ rfl _ rfl _ HX0.out ?_)
    refine (rbytes_bad _ r hok).mono ?_
    rintro e w2 ⟨rfl, hb2⟩
    have HB2 := Lib.hid (HB0.out.trans (hb2.mono HB0.out.size))
    clear hb2
    go_wp2_with fail
    go_ret
    exact done_quiet H.out HB2.out
end Go.Proofs.YteeljcnmgfjcmaaGreatDoor

/-
  Package root: Find by its contract. Conditions: none but that the disk lies there.
-/
namespace Go.Proofs.YteeljcnmgfjcmaaGreatDoor
open Go.RowKit Go.Maps
set_option maxRecDepth 100000

/-- What Find tells, and what the disk is behind it. -/
def findP (s : St) : Rt × Nat × St :=
  if 8 ≤ secs s / 8 ∧ secs s / 8 ≤ 4096 then
    (if (loadP s 0).2.1 = 0 then
      (if (loadP (loadP s 0).2.2 1).2.1 = 0 then ((findR (loadP s 0).1 (loadP (loadP s 0).2.2 1).1 (secs s / 8)).1, (if (findR (loadP s 0).1 (loadP (loadP s 0).2.2 1).1 (secs s / 8)).2 then 0 else 4), (loadP (loadP s 0).2.2 1).2.2)
      else (zeroR, (loadP (loadP s 0).2.2 1).2.1, (loadP (loadP s 0).2.2 1).2.2))
    else (zeroR, (loadP s 0).2.1, (loadP s 0).2.2))
  else (zeroR, 2, s)
def FindE (w : World) (S : Nat → Prop) (d : Nat) (q : Rt × Nat × St) (e : Ending) (w' : World) : Prop :=
  e = .returned (.tuple #[.agg (rtV q.1), .int .i64 ((q.2.1 : Nat) : Int)]) ∧ Dsk w' S d q.2.2 ∧ Trn S w w'
def FindRest (s : St) (s' : St) (r0 r1 : Rt) : Nat → Prop
  | 0 => s' = s ∧ r0 = zeroR ∧ r1 = zeroR
  | 1 => ∃ b0, loadP s 0 = (b0, 0, s') ∧ r0 = slotR b0 0 (secs s / 8) ∧ r1 = zeroR
  | _ => ∃ b0 s0 b1, loadP s 0 = (b0, 0, s0) ∧ loadP s0 1 = (b1, 0, s') ∧ r0 = slotR b0 0 (secs s / 8) ∧ r1 = slotR b1 1 (secs s / 8)
/-- Find under way: k slots are looked at. -/
structure FindSt (w : World) (S : Nat → Prop) (d g : Nat) (s : St) (k : Nat) (u : World) (s' : St) (r0 r1 : Rt) : Prop where
  box : RBox u w.heap.size zeroR
  two : RTwo u g r0 r1
  hg : w.heap.size < g
  dsk : Dsk u S d s'
  trn : Trn S w u
  sec : secs s' = secs s
  wf0 : r0.Wf
  wf1 : r1.Wf
  rest : FindRest s s' r0 r1 k
def RootFindRel (w : World) (S : Nat → Prop) (d g : Nat) (s : St) (i : Value) (u : World) : Prop :=
  ∃ s' r0 r1, (i = .int .i64 0 ∧ FindSt w S d g s 0 u s' r0 r1) ∨ (i = .int .i64 1 ∧ FindSt w S d g s 1 u s' r0 r1) ∨ (i = .int .i64 2 ∧ FindSt w S d g s 2 u s' r0 r1)
theorem loadP_secs {s : St} {x : Int} (ok : OkSt s) : secs (loadP s x).2.2 = secs s := by
  have key : ∀ (k n : Nat) (s : St) (acc : List UInt8), k ≤ 8 → OkSt s → n < secs s / 8 → secs (loadI n k s acc).2.2 = secs s := by
    intro k
    induction k with
    | zero => intro n s acc _ _ _; rfl
    | succ k ih =>
      intro n s acc hk ok hn
      have hr := readR_in (a := 8 * n + (7 - k)) ok (by omega)
      rw [loadI]
      split
      · rw [ih n _ _ (by omega) hr.2.2.2.2 (by rw [hr.2.2.2.1]; exact hn), hr.2.2.2.1]
      · exact hr.2.2.2.1
  unfold loadP
  split
  · rename_i h
    exact key 8 x.toNat s [] (by omega) ok (by omega)
  · rfl
theorem rfind_nil (w : World) : Calls Tryz.prog 10 #[.pointer none] w (RtN w zeroR 1) := by
  have Z := rtZero
  have HX := Lib.hid (RBox.new w zeroR)
  have HB := Lib.hid (below_new w (.cells (rtV zeroR) 39))
  go_enter Tryz.func10, Tryz.ntmps10
  go_wp2_with fail
  refine (pages_nil _).mono ?_
  rintro e w1 ⟨rfl, rfl⟩
  go_wp2_with fail
  refine (ismade_nil _).mono ?_
  rintro e w1 ⟨rfl, rfl⟩
  go_wp2_with (with_reducible (show wpList _ _ _ (⟨_, Op.store 39 _ _, _, _, _, _⟩ :: _) _ _); refine wpList_storeRt rfl _ _ rfl _ rfl zeroR rfl _ HX.out ?_; intro w9 h2 h3 h4 h5)
  refine ret_rt2 _ rfl rfl rfl _ rfl h2 ?_
  exact ⟨rfl, h3 _ _ HB.out (Nat.le_refl _)⟩
set_option maxRecDepth 100000 in
set_option maxHeartbeats 4000000 in
theorem rfind_arg (w : World) (S : Nat → Prop) (d : Nat) (s : St) (h : Dsk w S d s) (hp : ¬ (8 ≤ secs s / 8 ∧ secs s / 8 ≤ 4096)) :
    Calls Tryz.prog 10 #[.pointer (some ⟨d, 0, none⟩)] w (FindE w S d (zeroR, 2, s)) := by
  have Z := rtZero
  have HX := Lib.hid (RBox.new w zeroR)
  have HB := Lib.hid (below_new w (.cells (rtV zeroR) 39))
  have H := Lib.hid h
  have HP := Lib.hid (pages_is _ S d s (h.below HB.out))
  have HM := Lib.hid (ismade_is _ S d s (h.below HB.out))
  clear h
  generalize secs s / 8 = pg at *
  by_cases h8 : (pg : Int) < 8
  · go_enter Tryz.func10, Tryz.ntmps10
    go_wp2_with fail
    refine HP.out.mono ?_
    rintro e w1 ⟨rfl, rfl⟩
    go_wp2_with fail
    refine HM.out.mono ?_
    rintro e w1 ⟨rfl, rfl⟩
    go_wp2_with (with_reducible (show wpList _ _ _ (⟨_, Op.store 39 _ _, _, _, _, _⟩ :: _) _ _); refine wpList_storeRt rfl _ _ rfl _ rfl zeroR rfl _ HX.out ?_; intro w9 h2 h3 h4 h5)
    refine ret_rt2 _ rfl rfl rfl _ rfl h2 ?_
    have hb := h3 _ _ HB.out (Nat.le_refl _)
    exact ⟨rfl, H.out.below hb, Trn.of_below hb⟩
  · have h9 : (4096 : Int) < (pg : Int) := by omega
    go_enter Tryz.func10, Tryz.ntmps10
    go_wp2_with fail
    refine HP.out.mono ?_
    rintro e w1 ⟨rfl, rfl⟩
    go_wp2_with fail
    refine HM.out.mono ?_
    rintro e w1 ⟨rfl, rfl⟩
    go_wp2_with (with_reducible (show wpList _ _ _ (⟨_, Op.store 39 _ _, _, _, _, _⟩ :: _) _ _); refine wpList_storeRt rfl _ _ rfl _ rfl zeroR rfl _ HX.out ?_; intro w9 h2 h3 h4 h5)
    refine ret_rt2 _ rfl rfl rfl _ rfl h2 ?_
    have hb := h3 _ _ HB.out (Nat.le_refl _)
    exact ⟨rfl, H.out.below hb, Trn.of_below hb⟩
end Go.Proofs.YteeljcnmgfjcmaaGreatDoor

/-
  Package root: Find by its contract, the slots one by one. Conditions: none but that the disk lies there.
-/
namespace Go.Proofs.YteeljcnmgfjcmaaGreatDoor
open Go.RowKit Go.Maps
set_option maxRecDepth 100000

section
variable {w u u' : World} {S : Nat → Prop} {d g k : Nat} {s s' : St} {r0 r1 : Rt}
/-- What a call that leaves the disk as it was leaves. -/
theorem FindSt.below (h : FindSt w S d g s k u s' r0 r1) (hb : Below u.heap.size u u') : FindSt w S d g s k u' s' r0 r1 :=
  ⟨h.box.below hb, h.two.below hb, h.hg, h.dsk.below hb, h.trn.trans (Trn.of_below hb : Trn (fun _ => False) u u') (fun _ _ f => f.elim), h.sec, h.wf0, h.wf1, h.rest⟩
/-- .. as far as its blocks: the disk goes on otherwise. -/
structure FindMid (w : World) (S : Nat → Prop) (d g : Nat) (s : St) (u : World) (s' : St) (r0 r1 : Rt) : Prop where
  box : RBox u w.heap.size zeroR
  two : RTwo u g r0 r1
  hg : w.heap.size < g
  dsk : Dsk u S d s'
  trn : Trn S w u
  sec : secs s' = secs s
theorem FindSt.mid (h : FindSt w S d g s k u s' r0 r1) (hS : ∀ k, S k → k < w.heap.size) {s2 : St} (ht : Trn S u u') (hd : Dsk u' S d s2) (hs : secs s2 = secs s') : FindMid w S d g s u' s2 r0 r1 :=
  ⟨h.box.trn ht (fun x => by have := hS _ x; omega), h.two.trn ht (fun x => by have := hS _ x; have := h.hg; omega), h.hg, hd, h.trn.trans ht (fun _ _ x => x), hs.trans h.sec⟩
theorem FindMid.below (h : FindMid w S d g s u s' r0 r1) (hb : Below u.heap.size u u') : FindMid w S d g s u' s' r0 r1 :=
  ⟨h.box.below hb, h.two.below hb, h.hg, h.dsk.below hb, h.trn.trans (Trn.of_below hb : Trn (fun _ => False) u u') (fun _ _ f => f.elim), h.sec⟩
theorem FindMid.st (h : FindMid w S d g s u s' r0 r1) (k : Nat) (h0 : r0.Wf) (h1 : r1.Wf) (hr : FindRest s s' r0 r1 k) : FindSt w S d g s k u s' r0 r1 :=
  ⟨h.box, h.two, h.hg, h.dsk, h.trn, h.sec, h0, h1, hr⟩
theorem FindMid.put {q0 q1 : Rt} (h : FindMid w S d g s u s' r0 r1) (hS : ∀ k, S k → k < w.heap.size) (ht : Trn (fun k => k = g) u u') (h2 : RTwo u' g q0 q1) : FindMid w S d g s u' s' q0 q1 :=
  ⟨h.box.trn ht (fun x => by have := h.hg; omega), h2, h.hg, h.dsk.trn ht (fun k hk e => by have := hS _ hk; have := h.hg; omega), h.trn.trans ht (fun k hk e => by have := h.hg; omega), h.sec⟩
theorem FindMid.fresh {b : Nat} (h : FindMid w S d g s u s' r0 r1) (hS : ∀ k, S k → k < w.heap.size) (ht : Trn (fun k => k = b) u u') (hb : g < b) : FindMid w S d g s u' s' r0 r1 :=
  ⟨h.box.trn ht (fun x => by have := h.hg; omega), h.two.trn ht (fun x => by omega), h.hg, h.dsk.trn ht (fun k hk e => by have := hS _ hk; have := h.hg; omega), h.trn.trans ht (fun k hk e => by have := h.hg; omega), h.sec⟩
theorem FindSt.cast (h : FindSt w S d g s k u s' r0 r1) : FindMid w S d g s u s' r0 r1 := ⟨h.box, h.two, h.hg, h.dsk, h.trn, h.sec⟩
theorem FindMid.ret (h : FindMid w S d g s u s' r0 r1) (hS : ∀ k, S k → k < w.heap.size) (ht : Trn (fun k => k = w.heap.size) u u') : Dsk u' S d s' ∧ Trn S w u' :=
  ⟨h.dsk.trn ht (fun k hk e => by have := hS _ hk; omega), h.trn.trans ht (fun k hk e => by omega)⟩
end
theorem findP_err0 {s : St} (hp : 8 ≤ secs s / 8 ∧ secs s / 8 ≤ 4096) (h : (loadP s 0).2.1 ≠ 0) : findP s = (zeroR, (loadP s 0).2.1, (loadP s 0).2.2) := by
  unfold findP; rw [if_pos hp, if_neg h]
theorem findP_err1 {s s0 : St} {b0 : List UInt8} (hp : 8 ≤ secs s / 8 ∧ secs s / 8 ≤ 4096) (h0 : loadP s 0 = (b0, 0, s0)) (h : (loadP s0 1).2.1 ≠ 0) : findP s = (zeroR, (loadP s0 1).2.1, (loadP s0 1).2.2) := by
  unfold findP; rw [if_pos hp, h0, if_pos rfl, if_neg h]
theorem findP_end {s s0 s1 : St} {b0 b1 : List UInt8} (hp : 8 ≤ secs s / 8 ∧ secs s / 8 ≤ 4096) (h0 : loadP s 0 = (b0, 0, s0)) (h1 : loadP s0 1 = (b1, 0, s1)) :
    findP s = ((findR b0 b1 (secs s / 8)).1, (if (findR b0 b1 (secs s / 8)).2 then 0 else 4), s1) := by
  unfold findP; rw [if_pos hp, h0, if_pos rfl, h1, if_pos rfl]
theorem below_of_trn {B b : Nat} {w w' : World} (ht : Trn (fun k => k = b) w w') (hB : B ≤ b) (hs : B ≤ w.heap.size) : Below B w w' :=
  ⟨ht.os, ht.tape, ht.output, ht.size, fun k hk => ht.block k (by omega) (by omega)⟩
/-- The end of Find: of both the one that counts. -/
def FinOk (w : World) (S : Nat → Prop) (d : Nat) (s1 : St) (p : Rt × Bool) : Ending → World → Prop := FindE w S d (p.1, (if p.2 then 0 else 4), s1)
set_option maxRecDepth 100000 in
set_option maxHeartbeats 8000000 in
theorem rfind_loop (w : World) (S : Nat → Prop) (d : Nat) (s : St) (h : Dsk w S d s) (hp : 8 ≤ secs s / 8 ∧ secs s / 8 ≤ 4096) :
    Calls Tryz.prog 10 #[.pointer (some ⟨d, 0, none⟩)] w (FindE w S d (findP s)) := by
  have Z := rtZero
  have Z2 := twoZero
  obtain ⟨w0, hw0⟩ : ∃ w0, w.alloc (.cells (rtV zeroR) 39) = w0 := ⟨_, rfl⟩
  obtain ⟨w1, hw1⟩ : ∃ w1, w0.alloc (.cells (rtV zeroR ++ rtV zeroR) 63) = w1 := ⟨_, rfl⟩
  have hb0 : Below w.heap.size w w0 := hw0 ▸ below_new w _
  have hb1 : Below w0.heap.size w0 w1 := hw1 ▸ below_new w0 _
  have hb01 : Below w.heap.size w w1 := hb0.trans (hb1.mono hb0.size)
  have hs0 : w0.heap.size = w.heap.size + 1 := by rw [← hw0]; simp
  have hx0 : RBox w0 w.heap.size zeroR := hw0 ▸ RBox.new w zeroR
  have ht1 : RTwo w1 (w.heap.size + 1) zeroR zeroR := by
    have := (hw1 ▸ RTwo.new w0 zeroR zeroR : RTwo w1 _ _ _)
    rwa [hs0] at this
  have HST : Hid (FindSt w S d (w.heap.size + 1) s 0 w1 s zeroR zeroR) := ⟨hx0.below hb1, ht1, by omega, h.below hb01, Trn.of_below hb01, rfl, zeroR_wf, zeroR_wf, rfl, rfl, rfl⟩
  have HW0 := Lib.hid hw0
  have HW1 := Lib.hid hw1
  have HS0 := Lib.hid hs0
  have HPG := Lib.hid (pages_is w0 S d s (h.below hb0))
  have HM := Lib.hid (ismade_is w0 S d s (h.below hb0))
  have HLT := Lib.hid h.lt
  have HP := Lib.hid hp
  have HOK := Lib.hid h.okS
  have hp8 : ¬ ((secs s / 8 : Nat) : Int) < 8 := by omega
  have hp9 : ¬ (4096 : Int) < ((secs s / 8 : Nat) : Int) := by omega
  obtain ⟨pg, hpg⟩ : ∃ pg, secs s / 8 = pg := ⟨_, rfl⟩
  have hp1 : IntKind.u64.wrap (pg : Int) = (pg : Int) := by rw [IntKind.wrap_u64]; omega
  rw [hpg] at hp8 hp9 HPG
  have HPE := Lib.hid hpg
  clear hw0 hw1 hb0 hb1 hb01 hs0 hx0 ht1 h hp hpg
  generalize hQ : findP s = fq
  have HQ := Lib.hid hQ
  clear hQ
  go_enter Tryz.func10, Tryz.ntmps10
  go_wp2_with fail
  rw [HW0.out]
  refine HPG.out.mono ?_
  rintro e w2 ⟨rfl, rfl⟩
  go_wp2_with fail
  refine HM.out.mono ?_
  rintro e w2 ⟨rfl, rfl⟩
  go_wp2_with fail
  rw [HW1.out, HS0.out]
  clear HW0 HW1 HS0 HPG HM
  go_loopw [28] (fun i wr => RootFindRel w S d (w.heap.size + 1) s i wr) (fun i _ => 2 - (intOf i).toNat)
  case atStart => exact ⟨_, _, _, .inl ⟨rfl, HST.out⟩⟩
  case round =>
    obtain ⟨s', r0, r1, ⟨rfl, hst⟩ | ⟨rfl, hst⟩ | ⟨rfl, hst⟩⟩ := hrel
    · have HS := Lib.hid hst
      have HL := Lib.hid (load_is wr S d s' 0 hst.dsk)
      have HSE := Lib.hid (loadP_secs (x := 0) hst.dsk.okS)
      clear hst HST
      generalize hlp : loadP s' 0 = lp at *
      have HLP := Lib.hid hlp
      clear hlp
      go_wp2_with fail
      refine HL.out.mono ?_
      rintro e w3 ⟨v3, rfl, hown3, hdk3, ht3⟩
      have HM3 := Lib.hid (HS.out.mid HLT.out ht3 hdk3 HSE.out)
      have HV3 := Lib.hid hown3.byt
      obtain ⟨A3, n3, c3, rfl, N3, hnc3, hcm3⟩ := hown3.byt.form
      clear hown3 hdk3 ht3
      by_cases her : lp.2.1 = 0
      · have hq : readQ lp.1 = readQ lp.1 := rfl
        have HLE : Hid (loadP s' 0 = (lp.1, 0, lp.2.2)) := by rw [Hid, HLP.out, ← her]
        rw [her]
        have HRD := Lib.hid (fun W hv => rread_any W (.slice A3 n3 c3) lp.1 hv)
        clear hq
        go_wp2_with fail
        refine (HRD.out _ HV3.out).mono ?_
        rintro e w4 ⟨rfl, hb4⟩
        have HM4 := Lib.hid (HM3.out.below hb4)
        clear hb4
        cases hrd : readRt lp.1 with
        | none =>
          rw [readQ_none hrd]
          have HSL := Lib.hid (fun k n => slotR_none (k := k) (n := n) hrd)
          clear hrd
          go_wp2_with (with_reducible (show wpList _ _ _ (⟨_, Op.store 39 _ _, _, _, _, _⟩ :: _) _ _); refine wpList_storeNewRt zeroR zeroR rfl _ _ rfl rfl rfl ?_; intro w5 hx5 hb5 hlt5; have HM5 := Lib.hid (HM4.out.below hb5); clear hx5 hb5 hlt5)
          go_roundw
          case rel => exact ⟨_, _, _, .inr (.inl ⟨rfl, HM5.out.st 1 HS.out.wf0 HS.out.wf1 ⟨lp.1, HS.out.rest.1 ▸ HLE.out, by rw [HSL.out]; exact HS.out.rest.2.1, HS.out.rest.2.2⟩⟩)⟩
          case measure => simp [intOf]
        | some r =>
          rw [readQ_some hrd]
          have HRW := Lib.hid (readRt_some hrd).2.2.1
          have HSY := Lib.hid (fun k n => slotR_some (k := k) (n := n) hrd)
          have HSN := Lib.hid (fun k n => slotR_other (k := k) (n := n) hrd)
          clear hrd
          go_wp2_with (with_reducible (show wpList _ _ _ (⟨_, Op.store 39 _ _, _, _, _, _⟩ :: _) _ _); refine wpList_storeNewRt zeroR r rfl _ _ rfl rfl rfl ?_; intro w5 hx5 hb5 hlt5; have HM5 := Lib.hid (HM4.out.below hb5); have HX5 := Lib.hid hx5; obtain ⟨d0, d1, d2, d3, d4, d5, d6, d7, d8⟩ := hx5.cells; clear hx5 hb5 hlt5)
          clear d0 d1 d2 d3 d4 d5 d6 d7 d8
          refine (rslot_any _ r).mono ?_
          rintro e w6 ⟨rfl, hb6⟩
          have HM6 := Lib.hid (HM5.out.below hb6)
          have HX6 := Lib.hid (HX5.out.below hb6)
          have d1 := HX6.out.cells.2.1
          clear hb6
          by_cases hk : r.e % 2 = 0
          · have hk1 : (((r.e % 2 : Nat) : Int) == 0) = true := by rw [hk]; rfl
            have HK := Lib.hid hk
            by_cases hpp : r.p = pg
            · have hpp1 : ((r.p : Int) == (pg : Int)) = true := by rw [hpp]; simp
              have HPP := Lib.hid hpp
              rw [hk]
              clear hk hpp
              go_wp2_with (first
                | (with_reducible (show wpList _ _ _ (⟨_, Op.load 39 _, _, _, _, _⟩ :: _) _ _); refine wpList_loadRt rfl _ rfl _ rfl _ HX6.out ?_)
                | (with_reducible (show wpList _ _ _ (⟨_, Op.store 39 _ _, _, _, _, _⟩ :: _) _ _); refine wpList_storeTwo0 rfl _ _ rfl _ rfl r rfl _ _ HM6.out.two ?_; intro w7 h71 h72 h73; have HM7 := Lib.hid (HM6.out.put HLT.out h72 h71); clear h71 h72 h73))
              go_roundw
              case rel => exact ⟨_, _, _, .inr (.inl ⟨rfl, HM7.out.st 1 HRW.out HS.out.wf1 ⟨lp.1, HS.out.rest.1 ▸ HLE.out, (HSY.out 0 _ ⟨HK.out, HPP.out.trans HPE.out.symm⟩).symm, HS.out.rest.2.2⟩⟩)⟩
              case measure => simp [intOf]
            · have hpp1 : ((r.p : Int) == (pg : Int)) = false := ne_int hpp
              have HPP := Lib.hid hpp
              rw [hk]
              clear hk hpp
              go_wp2_with fail
              go_roundw
              case rel => exact ⟨_, _, _, .inr (.inl ⟨rfl, HM6.out.st 1 HS.out.wf0 HS.out.wf1 ⟨lp.1, HS.out.rest.1 ▸ HLE.out, (by rw [HSN.out 0 _ (fun x => HPP.out (x.2.trans HPE.out))]; exact HS.out.rest.2.1), HS.out.rest.2.2⟩⟩)⟩
              case measure => simp [intOf]
          · have HK := Lib.hid hk
            have hk1 : (((r.e % 2 : Nat) : Int) == 0) = false := by rw [beq_eq_false_iff_ne]; omega
            generalize hm : r.e % 2 = m at *
            clear hk
            go_wp2_with fail
            go_roundw
            case rel => exact ⟨_, _, _, .inr (.inl ⟨rfl, HM6.out.st 1 HS.out.wf0 HS.out.wf1 ⟨lp.1, HS.out.rest.1 ▸ HLE.out, (by rw [HSN.out 0 _ (fun x => HK.out (hm ▸ x.1))]; exact HS.out.rest.2.1), HS.out.rest.2.2⟩⟩)⟩
            case measure => simp [intOf]
      · have hne : ((lp.2.1 : Int) != 0) = true := by simp only [bne, beq_eq_false_iff_ne, Bool.not_eq_true', ne_eq]; omega
        have HNE := Lib.hid her
        clear her
        go_wp2_with (with_reducible (show wpList _ _ _ (⟨_, Op.store 39 _ _, _, _, _, _⟩ :: _) _ _); refine wpList_storeRt rfl _ _ rfl _ rfl zeroR rfl _ HM3.out.box ?_; intro w9 h2 h3 h4 h5)
        refine ret_rt2 _ rfl rfl rfl _ rfl h2 ?_
        rw [← HQ.out, (show findP s = (zeroR, lp.2.1, lp.2.2) from by have e : loadP s 0 = lp := HS.out.rest.1 ▸ HLP.out; have := findP_err0 HP.out (by rw [e]; exact HNE.out); rw [e] at this; exact this)]
        exact ⟨rfl, HM3.out.ret HLT.out h4⟩
    · have HS := Lib.hid hst
      have HL := Lib.hid (load_is wr S d s' 1 hst.dsk)
      have HSE := Lib.hid (loadP_secs (x := 1) hst.dsk.okS)
      clear hst HST
      generalize hlp : loadP s' 1 = lp at *
      have HLP := Lib.hid hlp
      clear hlp
      go_wp2_with fail
      refine HL.out.mono ?_
      rintro e w3 ⟨v3, rfl, hown3, hdk3, ht3⟩
      have HM3 := Lib.hid (HS.out.mid HLT.out ht3 hdk3 HSE.out)
      have HV3 := Lib.hid hown3.byt
      obtain ⟨A3, n3, c3, rfl, N3, hnc3, hcm3⟩ := hown3.byt.form
      clear hown3 hdk3 ht3
      by_cases her : lp.2.1 = 0
      · have hq : readQ lp.1 = readQ lp.1 := rfl
        have HLE : Hid (loadP s' 1 = (lp.1, 0, lp.2.2)) := by rw [Hid, HLP.out, ← her]
        rw [her]
        have HRD := Lib.hid (fun W hv => rread_any W (.slice A3 n3 c3) lp.1 hv)
        clear hq
        go_wp2_with fail
        refine (HRD.out _ HV3.out).mono ?_
        rintro e w4 ⟨rfl, hb4⟩
        have HM4 := Lib.hid (HM3.out.below hb4)
        clear hb4
        cases hrd : readRt lp.1 with
        | none =>
          rw [readQ_none hrd]
          have HSL := Lib.hid (fun k n => slotR_none (k := k) (n := n) hrd)
          clear hrd
          go_wp2_with (with_reducible (show wpList _ _ _ (⟨_, Op.store 39 _ _, _, _, _, _⟩ :: _) _ _); refine wpList_storeNewRt zeroR zeroR rfl _ _ rfl rfl rfl ?_; intro w5 hx5 hb5 hlt5; have HM5 := Lib.hid (HM4.out.below hb5); clear hx5 hb5 hlt5)
          go_roundw
          case rel => exact ⟨_, _, _, .inr (.inr ⟨rfl, HM5.out.st 2 HS.out.wf0 HS.out.wf1 (by obtain ⟨b0, e1, e2, e3⟩ := HS.out.rest; exact ⟨b0, s', lp.1, e1, HLE.out, e2, by rw [HSL.out]; exact e3⟩)⟩)⟩
          case measure => simp [intOf]
        | some r =>
          rw [readQ_some hrd]
          have HRW := Lib.hid (readRt_some hrd).2.2.1
          have HSY := Lib.hid (fun k n => slotR_some (k := k) (n := n) hrd)
          have HSN := Lib.hid (fun k n => slotR_other (k := k) (n := n) hrd)
          clear hrd
          go_wp2_with (with_reducible (show wpList _ _ _ (⟨_, Op.store 39 _ _, _, _, _, _⟩ :: _) _ _); refine wpList_storeNewRt zeroR r rfl _ _ rfl rfl rfl ?_; intro w5 hx5 hb5 hlt5; have HM5 := Lib.hid (HM4.out.below hb5); have HX5 := Lib.hid hx5; obtain ⟨d0, d1, d2, d3, d4, d5, d6, d7, d8⟩ := hx5.cells; clear hx5 hb5 hlt5)
          clear d0 d1 d2 d3 d4 d5 d6 d7 d8
          refine (rslot_any _ r).mono ?_
          rintro e w6 ⟨rfl, hb6⟩
          have HM6 := Lib.hid (HM5.out.below hb6)
          have HX6 := Lib.hid (HX5.out.below hb6)
          have d1 := HX6.out.cells.2.1
          clear hb6
          by_cases hk : r.e % 2 = 1
          · have hk1 : (((r.e % 2 : Nat) : Int) == 1) = true := by rw [hk]; rfl
            have HK := Lib.hid hk
            by_cases hpp : r.p = pg
            · have hpp1 : ((r.p : Int) == (pg : Int)) = true := by rw [hpp]; simp
              have HPP := Lib.hid hpp
              rw [hk]
              clear hk hpp
              go_wp2_with (first
                | (with_reducible (show wpList _ _ _ (⟨_, Op.load 39 _, _, _, _, _⟩ :: _) _ _); refine wpList_loadRt rfl _ rfl _ rfl _ HX6.out ?_)
                | (with_reducible (show wpList _ _ _ (⟨_, Op.store 39 _ _, _, _, _, _⟩ :: _) _ _); refine wpList_storeTwo1 rfl _ _ rfl _ rfl r rfl _ _ HM6.out.two ?_; intro w7 h71 h72 h73; have HM7 := Lib.hid (HM6.out.put HLT.out h72 h71); clear h71 h72 h73))
              go_roundw
              case rel => exact ⟨_, _, _, .inr (.inr ⟨rfl, HM7.out.st 2 HS.out.wf0 HRW.out (by obtain ⟨b0, e1, e2, e3⟩ := HS.out.rest; exact ⟨b0, s', lp.1, e1, HLE.out, e2, (HSY.out 1 _ ⟨HK.out, HPP.out.trans HPE.out.symm⟩).symm⟩)⟩)⟩
              case measure => simp [intOf]
            · have hpp1 : ((r.p : Int) == (pg : Int)) = false := ne_int hpp
              have HPP := Lib.hid hpp
              rw [hk]
              clear hk hpp
              go_wp2_with fail
              go_roundw
              case rel => exact ⟨_, _, _, .inr (.inr ⟨rfl, HM6.out.st 2 HS.out.wf0 HS.out.wf1 (by obtain ⟨b0, e1, e2, e3⟩ := HS.out.rest; exact ⟨b0, s', lp.1, e1, HLE.out, e2, (by rw [HSN.out 1 _ (fun x => HPP.out (x.2.trans HPE.out))]; exact e3)⟩)⟩)⟩
              case measure => simp [intOf]
          · have HK := Lib.hid hk
            have hk1 : (((r.e % 2 : Nat) : Int) == 1) = false := by rw [beq_eq_false_iff_ne]; omega
            generalize hm : r.e % 2 = m at *
            clear hk
            go_wp2_with fail
            go_roundw
            case rel => exact ⟨_, _, _, .inr (.inr ⟨rfl, HM6.out.st 2 HS.out.wf0 HS.out.wf1 (by obtain ⟨b0, e1, e2, e3⟩ := HS.out.rest; exact ⟨b0, s', lp.1, e1, HLE.out, e2, (by rw [HSN.out 1 _ (fun x => HK.out (hm ▸ x.1))]; exact e3)⟩)⟩)⟩
            case measure => simp [intOf]
      · have hne : ((lp.2.1 : Int) != 0) = true := by simp only [bne, beq_eq_false_iff_ne, Bool.not_eq_true', ne_eq]; omega
        have HNE := Lib.hid her
        clear her
        go_wp2_with (with_reducible (show wpList _ _ _ (⟨_, Op.store 39 _ _, _, _, _, _⟩ :: _) _ _); refine wpList_storeRt rfl _ _ rfl _ rfl zeroR rfl _ HM3.out.box ?_; intro w9 h2 h3 h4 h5)
        refine ret_rt2 _ rfl rfl rfl _ rfl h2 ?_
        rw [← HQ.out, (show findP s = (zeroR, lp.2.1, lp.2.2) from by obtain ⟨b0, e1, _, _⟩ := HS.out.rest; have := findP_err1 HP.out e1 (by rw [HLP.out]; exact HNE.out); rw [HLP.out] at this; exact this)]
        exact ⟨rfl, HM3.out.ret HLT.out h4⟩
    · have HS := Lib.hid hst
      have HWF : Hid (r0.Wf ∧ r1.Wf) := ⟨hst.wf0, hst.wf1⟩
      have hrest := hst.rest
      have hgg := hst.hg
      clear hst HST
      obtain ⟨⟨pr, pb⟩, hch⟩ : ∃ p, chooseR r0 r1 (!decide (r0 = zeroR)) (!decide (r1 = zeroR)) = p := ⟨_, rfl⟩
      have hfp : findP s = (pr, (if pb then 0 else 4), s') := by
        obtain ⟨b0, s0, b1, e1, e2, e3, e4⟩ := hrest
        have := findP_end HP.out e1 e2
        unfold findR at this
        rw [← e3, ← e4, decide_not, decide_not, hch] at this
        exact this
      have hzp : pb = false → pr = zeroR := by
        intro e
        unfold chooseR at hch
        split at hch
        · injection hch with _ h; subst h; cases e
        · split at hch
          · injection hch with _ h; subst h; cases e
          · split at hch
            · injection hch with _ h; subst h; cases e
            · injection hch with h _; exact h.symm
      have HCH := Lib.hid hch
      have HFP := Lib.hid hfp
      have HZP := Lib.hid hzp
      have HGG := Lib.hid hgg
      have HLT0 : Hid (w.heap.size < wr.heap.size) := HS.out.box.lt
      clear hch hfp hrest hzp hgg
      go_wp2_with (with_reducible (show wpList _ _ _ (⟨_, Op.store 39 _ _, _, _, _, _⟩ :: _) _ _); refine wpList_storeNewRt zeroR zeroR rfl _ _ rfl rfl rfl ?_; intro w5 hx5 hb5 hlt5)
      have HX5 : Hid (RBox w5.drew wr.heap.size zeroR) := hx5
      have HM5 : Hid (FindMid w S d (w.heap.size + 1) s w5.drew s' r0 r1) := HS.out.cast.below hb5.drew
      have HGB : Hid (w.heap.size < w5.drew.heap.size) := Nat.lt_trans HLT0.out hlt5
      clear hx5 hb5 hlt5
      refine wp_region_L (R := fun x y => Below w5.drew.heap.size x y) (by kernel_rfl) (fun _ => Below.refl _ _) (fun h k => h.trans k) (by kernel_rfl) (fun d v c a w h => by cases d <;> exact h)
        [(0, false), (1, false), (2, false), (3, false), (4, false), (5, false), (6, false), (7, false), (8, false), (9, false), (10, false), (11, false)] 7 rfl (by kernel_rfl) (by kernel_rfl) (fun _ _ h => h) ?_
      simp only [sel, List.getElem?_toArray, List.getElem?_cons_succ, List.getElem?_cons_zero]
      generalize w5.drew = wd at *
      iterate 1 (refine schL_take ?_ rfl ?_ ?_; rotate_left; (focus (intro u hu; go_simp <;> rfl)); simp only [Act.put, List.setIfInBounds_toArray, List.set_cons_zero, List.set_cons_succ])
      refine schL_take (.agg (rtV r0)) rfl (fun u hu => exec_loadTwo0 _ rfl _ rfl (HM5.out.two.below hu)) ?_
      simp only [Act.put, List.setIfInBounds_toArray, List.set_cons_zero, List.set_cons_succ]
      iterate 1 (refine schL_take ?_ rfl ?_ ?_; rotate_left; (focus (intro u hu; go_simp <;> rfl)); simp only [Act.put, List.setIfInBounds_toArray, List.set_cons_zero, List.set_cons_succ])
      refine schL_take (.agg (rtV r1)) rfl (fun u hu => exec_loadTwo1 _ rfl _ rfl (HM5.out.two.below hu)) ?_
      simp only [Act.put, List.setIfInBounds_toArray, List.set_cons_zero, List.set_cons_succ]
      iterate 1 (refine schL_take ?_ rfl ?_ ?_; rotate_left; (focus (intro u hu; go_simp <;> rfl)); simp only [Act.put, List.setIfInBounds_toArray, List.set_cons_zero, List.set_cons_succ])
      refine schL_take (.agg (rtV r0)) rfl (fun u hu => exec_loadTwo0 _ rfl _ rfl (HM5.out.two.below hu)) ?_
      simp only [Act.put, List.setIfInBounds_toArray, List.set_cons_zero, List.set_cons_succ]
      refine schL_take (.agg (rtV zeroR)) rfl (fun u hu => exec_loadRt _ rfl _ rfl (HX5.out.below hu)) ?_
      simp only [Act.put, List.setIfInBounds_toArray, List.set_cons_zero, List.set_cons_succ]
      refine schL_take (.bool (!decide (r0 = zeroR))) rfl (fun u hu => exec_neRt _ _ rfl rfl rfl HWF.out.1 zeroR_wf) ?_
      simp only [Act.put, List.setIfInBounds_toArray, List.set_cons_zero, List.set_cons_succ]
      iterate 1 (refine schL_take ?_ rfl ?_ ?_; rotate_left; (focus (intro u hu; go_simp <;> rfl)); simp only [Act.put, List.setIfInBounds_toArray, List.set_cons_zero, List.set_cons_succ])
      refine schL_take (.agg (rtV r1)) rfl (fun u hu => exec_loadTwo1 _ rfl _ rfl (HM5.out.two.below hu)) ?_
      simp only [Act.put, List.setIfInBounds_toArray, List.set_cons_zero, List.set_cons_succ]
      refine schL_take (.agg (rtV zeroR)) rfl (fun u hu => exec_loadRt _ rfl _ rfl (HX5.out.below hu)) ?_
      simp only [Act.put, List.setIfInBounds_toArray, List.set_cons_zero, List.set_cons_succ]
      refine schL_take (.bool (!decide (r1 = zeroR))) rfl (fun u hu => exec_neRt _ _ rfl rfl rfl HWF.out.2 zeroR_wf) ?_
      simp only [Act.put, List.setIfInBounds_toArray, List.set_cons_zero, List.set_cons_succ]
      refine schL_nil ?_
      generalize hx0 : (!decide (r0 = zeroR)) = x0 at *
      generalize hx1 : (!decide (r1 = zeroR)) = x1 at *
      clear hx0 hx1
      refine held_fork (R := fun x y => Below wd.heap.size x y) (fun h k => h.trans k) (i := 12) (j := 16) (by kernel_rfl) rfl rfl rfl rfl ?_ ?_
      · intro K hK
        have hc := choose_any wd r0 r1 x0 x1
        rw [HCH.out] at hc
        go_simp
        refine hc.mono ?_
        rintro e w6 ⟨rfl, hb6⟩
        clear hc
        go_wp2_with fail
        refine hK _ _ hb6 ?_
        clear hK K
        have HM6 := Lib.hid (HM5.out.below hb6)
        have HSZ := Lib.hid hb6.size
        clear hb6
        refine held_of_sch (R := fun x y => Below wd.heap.size x y) (fun _ => Below.refl _ _) (fun h k => h.trans k) (by kernel_rfl) (fun d v c a w h => by cases d <;> exact h) [(13, false), (14, false), (15, false), (16, true), (17, true), (18, false)] _ _ _ (by kernel_rfl) (by kernel_rfl) ?_
        simp only [sel, List.getElem?_toArray, List.getElem?_cons_succ, List.getElem?_cons_zero]
        iterate 3 (refine sch_take ?_ rfl ?_ ?_; rotate_left; (focus (intro u hu; go_simp <;> rfl)); simp only [Act.put, List.setIfInBounds_toArray, List.set_cons_zero, List.set_cons_succ])
        refine sch_call rfl ?_
        intro K hK
        refine wp_allocRt rfl _ rfl (hK _ _ ((below_new _ _).mono HSZ.out) ?_)
        clear hK K
        simp only [Act.put, List.setIfInBounds_toArray, List.set_cons_zero, List.set_cons_succ]
        have HY := Lib.hid (RBox.new w6 zeroR)
        have HMY := Lib.hid (HM6.out.below (below_new w6 (.cells (rtV zeroR) 39)))
        have HGY : Hid (w.heap.size + 1 < w6.heap.size) := HM6.out.two.lt
        have hsy : wd.heap.size ≤ (w6.alloc (.cells (rtV zeroR) 39)).heap.size := Nat.le_trans HSZ.out (below_new w6 _).size
        refine sch_call rfl ?_
        intro K hK
        refine wp_storeRt _ _ rfl rfl _ rfl pr rfl zeroR HY.out ?_
        intro w7 h71 h72 h73
        refine hK _ _ (below_of_trn h72 HSZ.out hsy) ?_
        clear hK K hsy
        iterate 1 (refine sch_take ?_ rfl ?_ ?_; rotate_left; (focus (intro u hu; go_simp <;> rfl)); simp only [Act.put, List.setIfInBounds_toArray, List.set_cons_zero, List.set_cons_succ])
        refine sch_nil ?_
        have HM7 := Lib.hid (HMY.out.fresh HLT.out h72 HGY.out)
        have HX7 := Lib.hid h71
        clear h71 h72 h73
        cases pb
        · obtain rfl := HZP.out rfl
          go_wp2_with (with_reducible (show wpList _ _ _ (⟨_, Op.store 39 _ _, _, _, _, _⟩ :: _) _ _); refine wpList_storeRt rfl _ _ rfl _ rfl zeroR rfl _ HM7.out.box ?_; intro w9 h2 h3 h4 h5)
          refine ret_rt2 _ rfl rfl rfl _ rfl h2 ?_
          rw [← HQ.out, HFP.out]
          exact ⟨rfl, HM7.out.ret HLT.out h4⟩
        · go_wp2_with (first
            | (with_reducible (show wpList _ _ _ (⟨_, Op.load 39 _, _, _, _, _⟩ :: _) _ _); refine wpList_loadRt rfl _ rfl _ rfl _ HX7.out ?_)
            | (with_reducible (show wpList _ _ _ (⟨_, Op.store 39 _ _, _, _, _, _⟩ :: _) _ _); refine wpList_storeRt rfl _ _ rfl _ rfl pr rfl _ HM7.out.box ?_; intro w9 h2 h3 h4 h5))
          refine ret_rt2 _ rfl rfl rfl _ rfl h2 ?_
          rw [← HQ.out, HFP.out]
          exact ⟨rfl, HM7.out.ret HLT.out h4⟩
      · intro K hK
        refine wp_allocRt rfl _ rfl (hK _ _ (below_new _ _) ?_)
        clear hK K
        simp only [Act.put, List.setIfInBounds_toArray]
        obtain ⟨wy, hwy⟩ : ∃ wy, wd.alloc (.cells (rtV zeroR) 39) = wy := ⟨_, rfl⟩
        rw [hwy]
        have HYY : Hid (RBox wy wd.heap.size zeroR) := hwy ▸ RBox.new wd zeroR
        have hby : Below wd.heap.size wd wy := hwy ▸ below_new wd _
        have HM6 := Lib.hid (HM5.out.below hby)
        have HBY := Lib.hid hby
        clear hby hwy
        refine held_of_sch (R := fun x y => Below wd.heap.size x y) (fun _ => Below.refl _ _) (fun h k => h.trans k) (by kernel_rfl) (fun d v c a w h => by cases d <;> exact h) [(12, true), (13, false), (14, false), (15, false), (17, true), (18, false)] _ _ _ (by kernel_rfl) (by kernel_rfl) ?_
        simp only [sel, List.getElem?_toArray, List.getElem?_cons_succ, List.getElem?_cons_zero]
        have hc := choose_any wy r0 r1 x0 x1
        rw [HCH.out] at hc
        refine sch_call rfl ?_
        intro K hK
        go_simp
        refine hc.mono ?_
        rintro e w6 ⟨rfl, hb6⟩
        clear hc
        go_wp2_with fail
        refine hK _ _ (hb6.mono HBY.out.size) ?_
        clear hK K
        have HY := Lib.hid (HYY.out.below hb6)
        have HMY := Lib.hid (HM6.out.below hb6)
        have HGY : Hid (w.heap.size + 1 < wd.heap.size) := HM5.out.two.lt
        have HSZ := Lib.hid (Nat.le_trans HBY.out.size hb6.size)
        clear hb6
        iterate 3 (refine sch_take ?_ rfl ?_ ?_; rotate_left; (focus (intro u hu; go_simp <;> rfl)); simp only [Act.put, List.setIfInBounds_toArray, List.set_cons_zero, List.set_cons_succ])
        refine sch_call rfl ?_
        intro K hK
        refine wp_storeRt _ _ rfl rfl _ rfl pr rfl zeroR HY.out ?_
        intro w7 h71 h72 h73
        refine hK _ _ (below_of_trn h72 (Nat.le_refl _) HSZ.out) ?_
        clear hK K
        iterate 1 (refine sch_take ?_ rfl ?_ ?_; rotate_left; (focus (intro u hu; go_simp <;> rfl)); simp only [Act.put, List.setIfInBounds_toArray, List.set_cons_zero, List.set_cons_succ])
        refine sch_nil ?_
        have HM7 := Lib.hid (HMY.out.fresh HLT.out h72 HGY.out)
        have HX7 := Lib.hid h71
        clear h71 h72 h73
        cases pb
        · obtain rfl := HZP.out rfl
          go_wp2_with (with_reducible (show wpList _ _ _ (⟨_, Op.store 39 _ _, _, _, _, _⟩ :: _) _ _); refine wpList_storeRt rfl _ _ rfl _ rfl zeroR rfl _ HM7.out.box ?_; intro w9 h2 h3 h4 h5)
          refine ret_rt2 _ rfl rfl rfl _ rfl h2 ?_
          rw [← HQ.out, HFP.out]
          exact ⟨rfl, HM7.out.ret HLT.out h4⟩
        · go_wp2_with (first
            | (with_reducible (show wpList _ _ _ (⟨_, Op.load 39 _, _, _, _, _⟩ :: _) _ _); refine wpList_loadRt rfl _ rfl _ rfl _ HX7.out ?_)
            | (with_reducible (show wpList _ _ _ (⟨_, Op.store 39 _ _, _, _, _, _⟩ :: _) _ _); refine wpList_storeRt rfl _ _ rfl _ rfl pr rfl _ HM7.out.box ?_; intro w9 h2 h3 h4 h5))
          refine ret_rt2 _ rfl rfl rfl _ rfl h2 ?_
          rw [← HQ.out, HFP.out]
          exact ⟨rfl, HM7.out.ret HLT.out h4⟩
theorem rootfind_is (w : World) (S : Nat → Prop) (d : Nat) (s : St) (h : Dsk w S d s) : Calls Tryz.prog 10 #[.pointer (some ⟨d, 0, none⟩)] w (FindE w S d (findP s)) := by
  by_cases hp : 8 ≤ secs s / 8 ∧ secs s / 8 ≤ 4096
  · exact rfind_loop w S d s h hp
  · have : findP s = (zeroR, 2, s) := by unfold findP; rw [if_neg hp]
    rw [this]
    exact rfind_arg w S d s h hp
end Go.Proofs.YteeljcnmgfjcmaaGreatDoor

/-
  Roots over a disk, plain: what is written is found, and what a crash leaves. Conditions: no fault is to come.
-/
namespace Go.Proofs.YteeljcnmgfjcmaaGreatDoor
open Go.RowKit Go.Maps
set_option maxRecDepth 100000

/-- Below the cache the page n of the disk holds these bytes. -/
def Lies (s : St) (n : Nat) (b : List UInt8) : Prop := ∀ i, i < 8 → sectB s.B (8 * n + i) = partB b i
theorem save_base {n : Nat} {b : List UInt8} (hb : b.length = 4096) : ∀ k, k ≤ 8 → ∀ s : St, OkSt s → s.F = none → n < secs s / 8 →
    (saveI n b k s).2.B = s.B ∧ ((∀ i, 8 - k ≤ i → i < 8 → lookC s.C (8 * n + i) = none) → (saveI n b k s).2.C = s.C ++ (List.range' (8 - k) k).map (fun i => (8 * n + i, partB b i))) := by
  intro k
  induction k with
  | zero => intro _ s _ _ _; exact ⟨rfl, fun _ => by simp [saveI]⟩
  | succ k ih =>
    intro hk s ok hF hn
    have hlt : 8 * n + (7 - k) < secs s := by omega
    have hpl : (partB b (7 - k)).length = 512 := partB_len hb (by omega)
    have hw := write_done s (8 * n + (7 - k)) (partB b (7 - k)) hF hlt hpl
    obtain ⟨h1, h2⟩ := ih (by omega) (writeS s (8 * n + (7 - k)) (partB b (7 - k))) (ok.write hlt hpl) hF (by rw [secs_write]; exact hn)
    have e : saveI n b (k + 1) s = saveI n b k (writeS s (8 * n + (7 - k)) (partB b (7 - k))) := by
      rw [saveI, hw]
      exact if_pos rfl
    rw [e]
    refine ⟨h1, fun hl => ?_⟩
    have hc : (writeS s (8 * n + (7 - k)) (partB b (7 - k))).C = s.C ++ [(8 * n + (7 - k), partB b (7 - k))] := put_new _ (hl _ (by omega) (by omega))
    rw [h2 (fun i hi hi8 => ?_), hc, List.append_assoc, show 8 - (k + 1) = 7 - k by omega, List.range'_succ, List.map_cons, show 7 - k + 1 = 8 - k by omega]
    · rfl
    · show lookC (putC s.C _ _) _ = none
      rw [lookC_put, if_neg (by omega)]
      exact hl i (by omega) hi8
theorem writeP_holds {s : St} {r : Rt} (ok : OkSt s) (hF : s.F = none) (hr : okR r) (hp : r.p = secs s / 8) :
    ∃ s', writeP s r = (0, s') ∧ OkSt s' ∧ s'.F = none ∧ secs s' = secs s ∧ s'.B = s.B ∧ Holds s' (r.e % 2) (rootB r) ∧ (∀ m a, m ≠ r.e % 2 → Holds s m a → Holds s' m a) ∧
      ((∀ i, i < 8 → lookC s.C (8 * (r.e % 2) + i) = none) → s'.C = s.C ++ (List.range' 0 8).map (fun i => (8 * (r.e % 2) + i, partB (rootB r) i))) := by
  have hn : r.e % 2 < secs s / 8 := by have := hr.2.1.1; omega
  obtain ⟨s', h1, h2, h3, h4, h5, h6⟩ := saveP_holds ok hF hn (rootB_len r)
  have hs : saveP s ((r.e % 2 : Nat) : Int) (rootB r) = saveI (r.e % 2) (rootB r) 8 s := by
    unfold saveP
    rw [if_pos ⟨⟨by omega, by omega⟩, rootB_len r⟩, Int.toNat_natCast]
  obtain ⟨g1, g2⟩ := save_base (rootB_len r) 8 (Nat.le_refl _) s ok hF hn
  rw [← hs, h1] at g1 g2
  refine ⟨s', ?_, h2, h3, h4, g1, h5, h6, fun hl => g2 (fun i _ hi => hl i hi)⟩
  unfold writeP
  rw [if_pos hr, if_pos hp, h1]
theorem crash_holds {s : St} {m : Nat} {b : List UInt8} (ok : OkSt s) (hm : m < secs s / 8) (h1 : Lies s m b) (h2 : Holds s m b) (keep : List Bool) (torn bytes : Int) : Holds (crashS s keep torn bytes) m b := by
  intro i hi
  rw [read_crash]
  rcases crash_sect ok keep torn bytes (8 * m + i) (by omega) with h | h | ⟨_, k, _, _, h3, h4⟩
  · rw [h, h1 i hi]
  · rw [h, h2 i hi]
  · rw [h2 i hi] at h3
    rw [h1 i hi] at h4
    rw [← List.take_append_drop k (sectB (crashS s keep torn bytes).B (8 * m + i)), h3, h4, List.take_append_drop]
theorem secs_crash {s : St} (ok : OkSt s) (keep : List Bool) (torn bytes : Int) : secs (crashS s keep torn bytes) = secs s := secs_settle _ ok
theorem findP_holds {s : St} {b0 b1 : List UInt8} (hF : s.F = none) (hp : 8 ≤ secs s / 8 ∧ secs s / 8 ≤ 4096) (l0 : b0.length = 4096) (l1 : b1.length = 4096) (h0 : Holds s 0 b0) (h1 : Holds s 1 b1) :
    findP s = ((findR b0 b1 (secs s / 8)).1, (if (findR b0 b1 (secs s / 8)).2 then 0 else 4), s) :=
  findP_end hp (loadP_holds (n := 0) hF (by omega) l0 h0) (loadP_holds (n := 1) hF (by omega) l1 h1)
theorem slotR_root {r : Rt} {k n : Nat} (hw : r.Wf) (ok : okR r) (hk : r.e % 2 = k ∧ r.p = n) : slotR (rootB r) k n = r := slotR_some (readRt_root hw ok) hk
def zPage : List UInt8 := List.replicate 4096 0
theorem zPage_len : zPage.length = 4096 := List.length_replicate
theorem zPage_none : readRt zPage = none := readRt_none (fun h => by
  have h1 := h.1.2
  have h2 : zPage.take 3 = [0, 0, 0] := by unfold zPage; rw [List.take_replicate]; rfl
  rw [h2] at h1
  exact absurd h1 (by decide))
theorem new_sect {n i : Nat} (h : i < n) : sectB (newS n).B i = List.replicate 512 0 := by
  show (List.drop (512 * i) (List.replicate (512 * n) 0)).take 512 = _
  rw [List.drop_replicate, List.take_replicate]
  congr 1
  omega
theorem zPage_part {i : Nat} (h : i < 8) : partB zPage i = List.replicate 512 0 := by
  unfold partB zPage
  rw [List.drop_replicate, List.take_replicate]
  congr 1
  omega
theorem new_lies {n m : Nat} (h : m < n / 8) : Lies (newS n) m zPage := fun i hi => by rw [new_sect (by omega), zPage_part hi]
theorem new_holds {n m : Nat} (h : m < n / 8) : Holds (newS n) m zPage := new_lies h

/-! The chapter's examples. -/
def ofR (e : Nat) : Rt := ⟨e, 8, 0, 0, 0, 0, 0, 0, 0⟩
theorem ofR_ok1 : okR (ofR 1) := by decide
theorem ofR_ok2 : okR (ofR 2) := by decide
theorem ofR_wf {e : Nat} (h : e < 18446744073709551616) : (ofR e).Wf := by constructor <;> first | exact h | exact (by decide : (8 : Nat) < 18446744073709551616) | exact (by decide : (0 : Nat) < 18446744073709551616)
theorem look_map (m : Nat) (f : Nat → List UInt8) (c : Nat) : ∀ l : List Nat, (∀ j ∈ l, c + j ≠ m) → lookC (l.map (fun i => (c + i, f i))) m = none
  | [], _ => rfl
  | x :: l, h => by
    rw [List.map_cons, lookC, if_neg (h x (by simp))]
    exact look_map m f c l (fun j hj => h j (by simp [hj]))
theorem kept_nil (k : Nat) : keptN [] 0 0 k = 0 := by
  unfold keptN
  split
  · rfl
  · simp
def eight : List Bool := [true, true, true, true, true, true, true, true]
/-- A sector whose place the crash keeps nothing of is as it was at the last flush. -/
theorem crash_off {s : St} (ok : OkSt s) {keep : List Bool} {torn bytes : Int} {i : Nat} (h : ∀ j (hj : j < s.C.length), s.C[j].1 = i → keptN keep torn bytes j = 0) : sectB (crashS s keep torn bytes).B i = sectB s.B i := by
  cases hl : lookC s.C i with
  | none => exact settle_none ok.whole ok.rows _ (Nat.le_refl _) (fun j hj _ => look_off hl j hj)
  | some l =>
    obtain ⟨j, hj, rfl, rfl⟩ := look_place hl
    have h1 := settle_some (f := keptN keep torn bytes) ok.whole ok.rows ok.once hj _ (Nat.le_refl _) hj
    rw [h j hj rfl] at h1
    show sectB (settleTo _ _ _ _) _ = _
    rw [h1]
    simp
/-- .. and one that it keeps all of is as it was written last. -/
theorem crash_on {s : St} (ok : OkSt s) {keep : List Bool} {torn bytes : Int} {j : Nat} (hj : j < s.C.length) (h : keptN keep torn bytes j = 512) : sectB (crashS s keep torn bytes).B s.C[j].1 = s.C[j].2 := by
  have h1 := settle_some (f := keptN keep torn bytes) ok.whole ok.rows ok.once hj _ (Nat.le_refl _) hj
  have h2 := (ok.rows _ (List.getElem_mem hj)).2
  rw [h, List.take_of_length_le (by omega)] at h1
  show sectB (settleTo _ _ _ _) _ = _
  rw [h1, List.drop_of_length_le, List.append_nil]
  unfold sectB
  rw [List.length_take]
  omega
theorem lives_plain : ∃ s1 s2 s3 s4, writeP (newS 64) (ofR 1) = (0, s1) ∧ writeP s1 (ofR 2) = (0, s2) ∧ findP s2 = (ofR 2, 0, s2) ∧ crashS s2 [] 0 0 = s3 ∧ findP s3 = (zeroR, 4, s3) ∧ crashS s2 eight (-1) 0 = s4 ∧ findP s4 = (ofR 1, 0, s4) := by
  have ok0 : OkSt (newS 64) := OkSt.new (by omega) (by omega)
  obtain ⟨s1, e1, ok1, f1, c1, b1, h1, _, k1⟩ := writeP_holds ok0 rfl ofR_ok1 (by rw [secs_new]; rfl)
  rw [secs_new] at c1
  obtain ⟨s2, e2, ok2, f2, c2, b2, h2, g2, k2⟩ := writeP_holds ok1 f1 ofR_ok2 (by rw [c1]; rfl)
  rw [c1] at c2
  have hC1 : s1.C = (List.range' 0 8).map (fun i => (8 + i, partB (rootB (ofR 1)) i)) := k1 (fun i _ => rfl)
  have hC2 := k2 (fun i hi => by rw [hC1]; exact look_map _ _ 8 _ (fun j _ => by show 8 + j ≠ 8 * (2 % 2) + i; omega))
  rw [hC1] at hC2
  have hB : s2.B = (newS 64).B := b2.trans b1
  have h21 : Holds s2 1 (rootB (ofR 1)) := g2 1 _ (by decide) h1
  have h20 : Holds s2 0 (rootB (ofR 2)) := h2
  have w1 := ofR_wf (e := 1) (by omega)
  have w2 := ofR_wf (e := 2) (by omega)
  have q0 : slotR (rootB (ofR 2)) 0 8 = ofR 2 := slotR_root w2 ofR_ok2 ⟨rfl, rfl⟩
  have q1 : slotR (rootB (ofR 1)) 1 8 = ofR 1 := slotR_root w1 ofR_ok1 ⟨rfl, rfl⟩
  have z0 : slotR zPage 0 8 = zeroR := slotR_none zPage_none
  have z1 : slotR zPage 1 8 = zeroR := slotR_none zPage_none
  have hp2 : secs s2 / 8 = 8 := by rw [c2]
  refine ⟨s1, s2, _, _, e1, e2, ?_, rfl, ?_, rfl, ?_⟩
  · rw [findP_holds f2 (by omega) (rootB_len _) (rootB_len _) h20 h21, hp2]
    unfold findR
    rw [q0, q1]
    rfl
  · have hp3 : secs (crashS s2 [] 0 0) / 8 = 8 := by rw [secs_crash ok2, c2]
    have hz : ∀ m, m < 8 → Holds (crashS s2 [] 0 0) m zPage := fun m hm i hi => by
      rw [read_crash, crash_off ok2 (fun j _ _ => kept_nil j), hB]
      exact new_lies (n := 64) (by omega) i hi
    rw [findP_holds rfl (by omega) zPage_len zPage_len (hz 0 (by omega)) (hz 1 (by omega)), hp3]
    unfold findR
    rw [z0, z1]
    rfl
  · have hp4 : secs (crashS s2 eight (-1) 0) / 8 = 8 := by rw [secs_crash ok2, c2]
    have hk0 : ∀ j, j < 8 → keptN eight (-1) 0 j = 512 := by decide
    have hk1 : ∀ j, j < 8 → keptN eight (-1) 0 (8 + j) = 0 := by decide
    have hlen : s2.C.length = 16 := by rw [hC2]; rfl
    have ha : ∀ j (hj : j < s2.C.length), j < 8 → s2.C[j] = (8 + j, partB (rootB (ofR 1)) j) := by
      intro j hj h8
      simp only [hC2]
      rw [List.getElem_append_left (by simpa using h8)]
      simp
    have hb : ∀ j (hj : j < s2.C.length), 8 ≤ j → s2.C[j].1 < 8 := by
      intro j hj h8
      have hj' : j < 16 := by omega
      simp only [hC2]
      rw [List.getElem_append_right (by simpa using h8)]
      simp only [List.getElem_map, List.getElem_range']
      have : (ofR 2).e % 2 = 0 := rfl
      simp only [List.length_map, List.length_range']
      omega
    have hz : Holds (crashS s2 eight (-1) 0) 0 zPage := fun i hi => by
      rw [read_crash, crash_off ok2 (fun j hj e => ?_), hB]
      · exact new_lies (n := 64) (m := 0) (by omega) i hi
      · by_cases h8 : j < 8
        · rw [ha j hj h8] at e
          have e' : 8 + j = 8 * 0 + i := e
          omega
        · have := hk1 (j - 8) (by omega)
          rwa [show 8 + (j - 8) = j by omega] at this
    have ho : Holds (crashS s2 eight (-1) 0) 1 (rootB (ofR 1)) := fun i hi => by
      have hj : i < s2.C.length := by omega
      have h := crash_on ok2 (keep := eight) (torn := -1) (bytes := 0) hj (hk0 i hi)
      rw [ha i hj hi] at h
      rw [read_crash]
      exact h
    rw [findP_holds rfl (by omega) zPage_len (rootB_len _) hz ho, hp4]
    unfold findR
    rw [z0, q1]
    rfl
end Go.Proofs.YteeljcnmgfjcmaaGreatDoor

/-
  The chapter's examples on roots come out as it tells. Conditions: none.
-/
namespace Go.Proofs.YteeljcnmgfjcmaaGreatDoor
open Go.RowKit Go.Maps
set_option maxRecDepth 100000

def OfE (w : World) (x : Nat) (e : Ending) (w' : World) : Prop := e = .returned (.agg (rtV (ofR x))) ∧ Below w.heap.size w w'
theorem of_any (w : World) (x : Nat) : Calls Tryz.prog 17 #[.int .u64 (x : Int)] w (OfE w x) := by
  have Z := rtZero
  have HB := Lib.hid (below_new w (.cells (rtV zeroR) 39))
  have HX := Lib.hid (RBox.new w zeroR)
  go_enter Tryz.func17, Tryz.ntmps17
  go_wp2_with (with_reducible (show wpList _ _ _ (⟨_, Op.store 39 _ _, _, _, _, _⟩ :: _) _ _); refine wpList_storeRt rfl _ _ rfl _ rfl (ofR x) rfl _ HX.out ?_; intro w2 h2 h3 h4 h5)
  refine ret_rt1 _ rfl rfl rfl h2 ?_
  exact ⟨rfl, h3 _ _ HB.out (Nat.le_refl _)⟩
theorem RBox.belowB {w w' : World} {B g : Nat} {r : Rt} (h : RBox w g r) (hb : Below B w w') (hg : g < B) : RBox w' g r := (hb.block g hg).trans h
section
variable {o : Oper} {a : Act} {u : World}
theorem exec_neRt_same (x y : Operand) (ho : o.op = .binOp .neq 39 x y 39) {r : Rt} (hx : a.eval x = .agg (rtV r)) (hy : a.eval y = .agg (rtV r)) (hr : r.Wf) :
    (execOp a.eval o).run Tryz.prog u = .ok (.value (.bool false)) u := by
  have h := exec_neRt (u := u) x y ho hx hy hr hr
  rwa [show (!decide (r = r)) = false from by simp] at h
theorem exec_eqRt_same (x y : Operand) (ho : o.op = .binOp .eql 39 x y 39) {r : Rt} (hx : a.eval x = .agg (rtV r)) (hy : a.eval y = .agg (rtV r)) (hr : r.Wf) :
    (execOp a.eval o).run Tryz.prog u = .ok (.value (.bool true)) u := by
  have h := exec_eqRt (u := u) x y ho hx hy hr hr
  rwa [show decide (r = r) = true from by simp] at h
end
set_option maxRecDepth 100000 in
set_option maxHeartbeats 8000000 in
theorem lives6_any (w : World) : Calls Tryz.prog 4 #[] w (BoolB w true) := by
  have Z := rtZero
  obtain ⟨s1, s2, s3, s4, e1, e2, e3, e4, e5, e6, e7⟩ := lives_plain
  have F1 := ofR_wf (e := 1) (by omega)
  have F2 := ofR_wf (e := 2) (by omega)
  have C0 : Hid (∀ w, Calls Tryz.prog 6 #[.int .i64 64] w (Disked w (newS 64))) := fun w => snew_any w 64 (by omega) (by omega)
  have O1 : Hid (∀ w, Calls Tryz.prog 17 #[.int .u64 1] w (OfE w 1)) := fun w => of_any w 1
  have O2 : Hid (∀ w, Calls Tryz.prog 17 #[.int .u64 2] w (OfE w 2)) := fun w => of_any w 2
  have W1 : Hid (∀ w S g, Dsk w S g (newS 64) → Calls Tryz.prog 8 #[.pointer (some ⟨g, 0, none⟩), .agg (rtV (ofR 1))] w (Done w S g (0, s1))) := fun w S g h => e1 ▸ rwrite_is w S g _ (ofR 1) h F1
  have W2 : Hid (∀ w S g, Dsk w S g s1 → Calls Tryz.prog 8 #[.pointer (some ⟨g, 0, none⟩), .agg (rtV (ofR 2))] w (Done w S g (0, s2))) := fun w S g h => e2 ▸ rwrite_is w S g _ (ofR 2) h F2
  have D2 : Hid (∀ w S g, Dsk w S g s2 → Calls Tryz.prog 10 #[.pointer (some ⟨g, 0, none⟩)] w (FindE w S g (ofR 2, 0, s2))) := fun w S g h => e3 ▸ rootfind_is w S g s2 h
  have D3 : Hid (∀ w S g, Dsk w S g s3 → Calls Tryz.prog 10 #[.pointer (some ⟨g, 0, none⟩)] w (FindE w S g (zeroR, 4, s3))) := fun w S g h => e5 ▸ rootfind_is w S g s3 h
  have D4 : Hid (∀ w S g, Dsk w S g s4 → Calls Tryz.prog 10 #[.pointer (some ⟨g, 0, none⟩)] w (FindE w S g (ofR 1, 0, s4))) := fun w S g h => e7 ▸ rootfind_is w S g s4 h
  have K3 : Hid (∀ w S g, Dsk w S g s2 → Calls Tryz.prog 14 #[.pointer (some ⟨g, 0, none⟩), .agg #[.slice none 0 0, .int .i64 0, .int .i64 0]] w (Done w S g (0, s3))) := fun w S g h => e4 ▸ crash_is w S g s2 (.slice none 0 0) [] 0 0 h (Rowz.nil w) (fun k hk => by cases hk)
  have K4 : Hid (∀ w S g v, Dsk w S g s2 → Rowz w v [.bool true, .bool true, .bool true, .bool true, .bool true, .bool true, .bool true, .bool true] → (∀ k, v.ownBlock = some k → ¬ S k) → Calls Tryz.prog 14 #[.pointer (some ⟨g, 0, none⟩), .agg #[v, .int .i64 (-1), .int .i64 0]] w (Done w S g (0, s4))) := fun w S g v h hv hn => e6 ▸ crash_is w S g s2 v eight (-1) 0 h hv hn
  have G1 := Lib.hid F1
  have G2 := Lib.hid F2
  clear e1 e2 e3 e4 e5 e6 e7 F1 F2
  generalize newS 64 = s0 at *
  unfold OfE at *
  generalize ofR 1 = r1 at *
  generalize ofR 2 = r2 at *
  go_enter Tryz.func4, Tryz.ntmps4
  go_wp2_with fail
  refine (C0.out _).mono ?_
  rintro e w1 ⟨g, rfl, hd, hb⟩
  obtain ⟨S1, HD1, HS1⟩ : ∃ S1, Hid (Dsk w1 S1 g s0) ∧ Hid (∀ k, S1 k → w.heap.size ≤ k) := ⟨_, hd, fun k hk => hk.1⟩
  have HB1 := Lib.hid (hb)
  clear hd hb
  go_wp2_with fail
  refine (O1.out _).mono ?_
  rintro e w2 ⟨rfl, hb⟩
  have HD2 := Lib.hid (HD1.out.below hb)
  have HB2 := Lib.hid (HB1.out.trans (hb.mono HB1.out.size))
  skip
  clear hb HD1 HB1
  go_wp2_with fail
  refine (W1.out _ S1 g HD2.out).mono ?_
  intro e w3 hdone
  obtain ⟨rfl, ⟨S3, hd, hS⟩, hb⟩ := done_own hdone (HB2.out.size) HS1.out
  have HD3 := Lib.hid hd
  have HS3 := Lib.hid hS
  have HB3 := Lib.hid (HB2.out.trans (hb))
  skip
  clear hdone hd hS hb HD2 HB2
  go_wp2_with fail
  refine (O2.out _).mono ?_
  rintro e w4 ⟨rfl, hb⟩
  have HD4 := Lib.hid (HD3.out.below hb)
  have HB4 := Lib.hid (HB3.out.trans (hb.mono HB3.out.size))
  skip
  clear hb HD3 HB3
  go_wp2_with fail
  refine (W2.out _ S3 g HD4.out).mono ?_
  intro e w5 hdone
  obtain ⟨rfl, ⟨S5, hd, hS⟩, hb⟩ := done_own hdone (HB4.out.size) HS3.out
  have HD5 := Lib.hid hd
  have HS5 := Lib.hid hS
  have HB5 := Lib.hid (HB4.out.trans (hb))
  skip
  clear hdone hd hS hb HD4 HB4
  go_wp2_with fail
  refine (D2.out _ S5 g HD5.out).mono ?_
  rintro e w6 ⟨rfl, hd, ht⟩
  have HB6 := Lib.hid (HB5.out.trans (ht.below HB5.out.size HS5.out))
  have HL6 : Hid (¬ S5 w6.heap.size) := fun h => by have := HD5.out.lt _ h; have := ht.size; omega
  have HD6 := Lib.hid hd
  clear hd ht HB5 HD5
  go_wp2_with (with_reducible (show wpList _ _ _ (⟨_, Op.store 39 _ _, _, _, _, _⟩ :: _) _ _); refine wpList_storeNewRt zeroR r2 rfl _ _ rfl rfl rfl ?_; intro w7 hx7 hb7 hlt7)
  have HX7 : Hid (RBox w7.drew w6.heap.size r2) := hx7
  have HD7 := Lib.hid (HD6.out.below hb7.drew)
  have HB7 := Lib.hid (HB6.out.trans (hb7.drew.mono HB6.out.size))
  clear hx7 hb7 hlt7 HD6
  obtain ⟨X, hX⟩ : ∃ X, w6.heap.size = X := ⟨_, rfl⟩
  have HXG : Hid (w.heap.size ≤ X) := hX ▸ HB6.out.size
  rw [hX] at HX7 HL6 ⊢
  clear HB6
  refine wp_region_R (R := fun x y => ∀ r, RBox x X r → RBox y X r) (by kernel_rfl) (fun _ _ h => h) (fun h k r x => k r (h r x)) (by kernel_rfl) (fun d v c a w h => by cases d <;> exact h)
    [(0, false), (1, false), (2, false), (3, false), (4, true), (5, false), (6, false), (7, false), (8, false), (9, false), (10, true), (11, false), (12, false)] rfl (by kernel_rfl) (by kernel_rfl) ?_
  simp only [sel, List.getElem?_toArray, List.getElem?_cons_succ, List.getElem?_cons_zero]
  clear hX
  generalize w7.drew = wd7 at *
  iterate 3 (refine sch_take ?_ rfl ?_ ?_; rotate_left; (focus (intro u hu; go_simp <;> rfl)); simp only [Act.put, List.setIfInBounds_toArray, List.set_cons_zero, List.set_cons_succ])
  refine sch_take (.agg (rtV r2)) rfl (fun u hu => exec_loadRt _ rfl _ rfl (hu _ HX7.out)) ?_
  simp only [Act.put, List.setIfInBounds_toArray, List.set_cons_zero, List.set_cons_succ]
  refine sch_call rfl ?_
  intro K hK
  go_simp
  refine (O2.out _).mono ?_
  rintro e w8 ⟨rfl, hb⟩
  have HD8 := Lib.hid (HD7.out.below hb)
  have HB8 := Lib.hid (HB7.out.trans (hb.mono HB7.out.size))
  have HX8 := Lib.hid (HX7.out.below hb)
  go_wp2_with fail
  refine hK _ _ (fun r hr => hr.below hb) ?_
  clear hK K hb HD7 HB7 HX7
  refine sch_take (.bool false) rfl (fun u hu => exec_neRt_same _ _ rfl rfl rfl G2.out) ?_
  simp only [Act.put, List.setIfInBounds_toArray, List.set_cons_zero, List.set_cons_succ]
  iterate 3 (refine sch_take ?_ rfl ?_ ?_; rotate_left; (focus (intro u hu; go_simp <;> rfl)); simp only [Act.put, List.setIfInBounds_toArray, List.set_cons_zero, List.set_cons_succ])
  (refine sch_take ?_ rfl ?_ ?_; rotate_left; (focus (intro u hu; go_simp <;> rfl)); simp only [Act.put, List.setIfInBounds_toArray, List.set_cons_zero, List.set_cons_succ])
  refine sch_call rfl ?_
  intro K hK
  go_simp
  refine (K3.out _ S5 g HD8.out).mono ?_
  intro e w9 hdone
  have hx9 : ∀ r, RBox w8 X r → RBox w9 X r := fun r hr => hr.trn hdone.2.2 HL6.out
  obtain ⟨rfl, S9, hd, hS, hSo, ht⟩ := hdone.own HB8.out.size HS5.out
  have HD9 := Lib.hid hd
  have HB9 := Lib.hid (HB8.out.trans (ht.below HB8.out.size HS5.out))
  have HN9 : Hid (¬ S9 X) := fun h => HL6.out (hSo X h HX8.out.lt)
  have HS9 := Lib.hid hS
  have HX9 := Lib.hid (hx9 _ HX8.out)
  go_wp2_with fail
  refine hK _ _ hx9 ?_
  clear hK K hd hS hSo ht hdone hx9 HD8 HB8 HX8
  iterate 2 (refine sch_take ?_ rfl ?_ ?_; rotate_left; (focus (intro u hu; go_simp <;> rfl)); simp only [Act.put, List.setIfInBounds_toArray, List.set_cons_zero, List.set_cons_succ])
  refine sch_nil ?_
  go_wp2_with fail
  refine (D3.out _ S9 g HD9.out).mono ?_
  rintro e w10 ⟨rfl, hd, ht⟩
  have HB10 := Lib.hid (HB9.out.trans (ht.below HB9.out.size HS9.out))
  have HX10 := Lib.hid (HX9.out.trn ht HN9.out)
  clear hd ht HD9 HB9 HX9
  go_wp2_with fail
  refine (C0.out _).mono ?_
  rintro e w11 ⟨p, rfl, hd, hb⟩
  obtain ⟨T1, HD11, HS11⟩ : ∃ T1, Hid (Dsk w11 T1 p s0) ∧ Hid (∀ k, T1 k → w10.heap.size ≤ k) := ⟨_, hd, fun k hk => hk.1⟩
  have HC11 := Lib.hid hb
  clear hd hb
  go_wp2_with fail
  refine (O1.out _).mono ?_
  rintro e w12 ⟨rfl, hb⟩
  have HD12 := Lib.hid (HD11.out.below hb)
  have HC12 := Lib.hid (HC11.out.trans (hb.mono HC11.out.size))
  clear hb HD11 HC11
  go_wp2_with fail
  refine (W1.out _ T1 p HD12.out).mono ?_
  intro e w13 hdone
  obtain ⟨rfl, ⟨T3, hd, hS⟩, hb⟩ := done_own hdone HC12.out.size HS11.out
  have HD13 := Lib.hid hd
  have HS13 := Lib.hid hS
  have HC13 := Lib.hid (HC12.out.trans hb)
  clear hdone hd hS hb HD12 HC12
  go_wp2_with fail
  refine (O2.out _).mono ?_
  rintro e w14 ⟨rfl, hb⟩
  have HD14 := Lib.hid (HD13.out.below hb)
  have HC14 := Lib.hid (HC13.out.trans (hb.mono HC13.out.size))
  clear hb HD13 HC13
  go_wp2_with fail
  refine (W2.out _ T3 p HD14.out).mono ?_
  intro e w15 hdone
  obtain ⟨rfl, ⟨T5, hd, hS⟩, hb⟩ := done_own hdone HC14.out.size HS13.out
  have HD15 := Lib.hid hd
  have HS15 := Lib.hid hS
  have HC15 := Lib.hid (HC14.out.trans hb)
  clear hdone hd hS hb HD14 HC14
  go_wp2_with fail
  obtain ⟨wx, hwx⟩ : ∃ wx, w15.alloc (.cells #[.bool true, .bool true, .bool true, .bool true, .bool true, .bool true, .bool true, .bool true] 4) = wx := ⟨_, rfl⟩
  rw [hwx]
  have hrow : Rowz wx (.slice (some ⟨w15.heap.size, 0, none⟩) 8 8) [.bool true, .bool true, .bool true, .bool true, .bool true, .bool true, .bool true, .bool true] := hwx ▸ Rowz.lit w15 4 [.bool true, .bool true, .bool true, .bool true, .bool true, .bool true, .bool true, .bool true] (by simp [maxLen])
  have hbx : Below w15.heap.size w15 wx := hwx ▸ below_new w15 _
  have HDX := Lib.hid (HD15.out.below hbx)
  have HCX := Lib.hid (HC15.out.trans (hbx.mono HC15.out.size))
  have hnx : ∀ k, (Value.slice (some ⟨w15.heap.size, 0, none⟩) 8 8).ownBlock = some k → ¬ T5 k := fun k hk hs => by
    have := HD15.out.lt k hs
    simp [Value.ownBlock] at hk
    omega
  refine (K4.out wx T5 p _ HDX.out hrow hnx).mono ?_
  intro e w16 hdone
  obtain ⟨rfl, ⟨T16, hd, hS⟩, hb⟩ := done_own hdone HCX.out.size HS15.out
  have HD16 := Lib.hid hd
  have HS16 := Lib.hid hS
  have HC16 := Lib.hid (HCX.out.trans hb)
  clear hdone hd hS hb hrow hbx hnx hwx HDX HCX HD15 HC15
  go_wp2_with fail
  refine (D4.out _ T16 p HD16.out).mono ?_
  rintro e w17 ⟨rfl, hd, ht⟩
  have HC17 := Lib.hid (HC16.out.trans (ht.below HC16.out.size HS16.out))
  have HX17 := Lib.hid (HX10.out.belowB HC17.out HX10.out.lt)
  have HB17 := Lib.hid (HB10.out.trans (HC17.out.mono HB10.out.size))
  clear hd ht HD16 HC16 HX10
  go_wp2_with (with_reducible (show wpList _ _ _ (⟨_, Op.store 39 _ _, _, _, _, _⟩ :: _) _ _); refine wpList_storeRt rfl _ _ rfl _ rfl r1 rfl _ HX17.out ?_; intro w18 h2 h3 h4 h5)
  have HX18 : Hid (RBox w18.drew X r1) := h2
  have HB18 : Hid (Below w.heap.size w w18.drew) := (h3 _ _ HB17.out HXG.out).drew
  clear h2 h3 h4 h5
  refine wp_region_R (R := fun x y => ∀ r, RBox x X r → RBox y X r) (by kernel_rfl) (fun _ _ h => h) (fun h k r x => k r (h r x)) (by kernel_rfl) (fun d v c a w h => by cases d <;> exact h)
    [(0, false), (1, false), (2, false), (3, false), (4, false), (5, false), (6, false), (7, false), (8, true), (9, false), (10, false), (11, false)] rfl (by kernel_rfl) (by kernel_rfl) ?_
  simp only [sel, List.getElem?_toArray, List.getElem?_cons_succ, List.getElem?_cons_zero]
  generalize w18.drew = wd18 at *
  iterate 7 (refine sch_take ?_ rfl ?_ ?_; rotate_left; (focus (intro u hu; go_simp <;> rfl)); simp only [Act.put, List.setIfInBounds_toArray, List.set_cons_zero, List.set_cons_succ])
  refine sch_take (.agg (rtV r1)) rfl (fun u hu => exec_loadRt _ rfl _ rfl (hu _ HX18.out)) ?_
  simp only [Act.put, List.setIfInBounds_toArray, List.set_cons_zero, List.set_cons_succ]
  refine sch_call rfl ?_
  intro K hK
  go_simp
  refine (O1.out _).mono ?_
  rintro e w19 ⟨rfl, hb⟩
  have HB19 := Lib.hid (HB18.out.trans (hb.mono HB18.out.size))
  go_wp2_with fail
  refine hK _ _ (fun r hr => hr.below hb) ?_
  clear hK K hb HB18 HX18
  refine sch_take (.bool true) rfl (fun u hu => exec_eqRt_same _ _ rfl rfl rfl G1.out) ?_
  simp only [Act.put, List.setIfInBounds_toArray, List.set_cons_zero, List.set_cons_succ]
  iterate 2 (refine sch_take ?_ rfl ?_ ?_; rotate_left; (focus (intro u hu; go_simp <;> rfl)); simp only [Act.put, List.setIfInBounds_toArray, List.set_cons_zero, List.set_cons_succ])
  refine sch_nil ?_
  go_wp2_with fail
  go_ret
  exact ⟨rfl, HB19.out⟩
end Go.Proofs.YteeljcnmgfjcmaaGreatDoor

/-
  A root that came in, opened: what its cells hold. Conditions: none.
-/
namespace Go.Proofs.YteeljcnmgfjcmaaGreatDoor
open Go.ChangeShapes Go.WideShapes Go.ChangeAt Go.RowKit Go.Deep Go.Maps
set_option maxRecDepth 100000

theorem cellRw : Tryz.prog.cellsOf 36 = 1 := by kernel_rfl
theorem cellRm : Tryz.prog.cellsOf 37 = 4 := by kernel_rfl
theorem cellRoot : Tryz.prog.cellsOf 39 = 9 := by kernel_rfl
theorem list9 (cs : List Value) (h : cs.length = 9) : ∃ a b c d e f g i j, cs = [a, b, c, d, e, f, g, i, j] := by
  match cs, h with
  | [a, b, c, d, e, f, g, i, j], _ => exact ⟨a, b, c, d, e, f, g, i, j, rfl⟩
section
variable {H : Type} {enc : TypeId × Value → H} {W : World}
theorem open_w64 {fuel : Nat} {c : Value} {x : DataW H × List MemPlace} (h : DataW.trod enc Tryz.prog W 0 (fun _ => true) true fuel 36 [c] = some x) : ∃ n : Nat, c = .int .u64 (n : Int) ∧ n < 18446744073709551616 := by
  obtain ⟨k, q, _, w⟩ := DataW.trod_int Tryz.underlying36 h
  obtain ⟨n, rfl, hn⟩ := open_u64 w
  simp at q
  exact ⟨n, q, hn⟩
theorem open_rootF {fuel : Nat} {cs : List Value} {x : DataW H × List MemPlace} (h : DataW.trod enc Tryz.prog W 0 (fun _ => true) true fuel 39 cs = some x) : ∃ r : Rt, cs = (rtV r).toList ∧ r.Wf := by
  obtain ⟨y0, y1, y2, y3, y4, y5, n, hl, g0, g1, g2, g3, g4, g5⟩ := trod_struct6 Tryz.underlying39 h
  rw [cellRoot] at hl
  obtain ⟨c0, c1, c2, c3, c4, c5, c6, c7, c8, rfl⟩ := list9 cs hl
  simp only [cellRw, cellRm] at g0 g1 g2 g3 g4 g5
  obtain ⟨e, rfl, he⟩ := open_w64 g0
  obtain ⟨p, rfl, hp⟩ := open_w64 g1
  obtain ⟨t, rfl, ht⟩ := open_w64 g2
  obtain ⟨s, rfl, hs⟩ := open_w64 g3
  obtain ⟨l, rfl, hll⟩ := open_w64 g4
  obtain ⟨z0, z1, z2, z3, m, _, k0, k1, k2, k3⟩ := trod_array4 Tryz.underlying37 cellRw (c0 := c5) (c1 := c6) (c2 := c7) (c3 := c8) g5
  obtain ⟨a, rfl, ha⟩ := open_w64 k0
  obtain ⟨b, rfl, hb⟩ := open_w64 k1
  obtain ⟨c, rfl, hc⟩ := open_w64 k2
  obtain ⟨d, rfl, hd⟩ := open_w64 k3
  exact ⟨⟨e, p, t, s, l, a, b, c, d⟩, rfl, he, hp, ht, hs, hll, ha, hb, hc, hd⟩
theorem open_root {base : Nat} {v : Value} {d : DataW H} {p : List MemPlace}
    (hv : Value.okWide Tryz.prog W .any base 39 v) (h : DataW.Trod enc Tryz.prog W 0 (fun _ => true) true 39 v d p) : ∃ r : Rt, v = .agg (rtV r) ∧ r.Wf := by
  obtain ⟨cs, rfl, _⟩ := okWide_struct Tryz.underlying39 hv
  obtain ⟨fuel, hf⟩ := h
  obtain ⟨r, e, hr⟩ := open_rootF hf
  refine ⟨r, ?_, hr⟩
  simp [Value.cells] at e
  subst e
  rfl
end
end Go.Proofs.YteeljcnmgfjcmaaGreatDoor

