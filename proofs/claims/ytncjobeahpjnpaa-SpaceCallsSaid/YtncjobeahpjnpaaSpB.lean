/-
  Rows of one-cell values of a call's own (OwnV), slices of bools (Boos); slices.Clone, Index, Contains, Equal of bools; space's small functions. Conditions: a row has at most 2^46 places.
-/
import Derived.Test.YtncjobeahpjnpaaRowq
import Derived.Test.YtncjobeahpjnpaaSpA
import Derived.Test.YtncjobeahpjnpaaOrdT
import Derived.Lib.Hide
import Derived.Laws.MakeOwn
import Derived.Lib.SliceRun
namespace Go.Proofs.Ytncjobeahpjnpaa
open Go.RowKit Go.Maps
set_option maxRecDepth 100000

/-- The slice value v holds these values in a row of the call's own, from block B on. -/
def OwnV (w : World) (B : Nat) (e : TypeId) (v : Value) (vs : List Value) : Prop := w.ownsRow B e 1 v vs.length vs
theorem OwnV.nil (w : World) (B : Nat) (e : TypeId) : OwnV w B e (.slice none 0 0) [] := World.ownsRow_nil w B _ 1
theorem OwnV.rowz {w : World} {B : Nat} {e : TypeId} {v : Value} {vs : List Value} (h : OwnV w B e v vs) : Rowz w v vs := by
  rcases h.2 with ⟨rfl, h0⟩ | ⟨g, cap, cur, rfl, hb, hg, h1, h2, h3, h4⟩
  · obtain rfl : vs = [] := List.eq_nil_of_length_eq_zero h0
    exact Rowz.nil w
  · refine ⟨_, cap, rfl, h1, h2, .inr ⟨g, 0, rfl, (Array.getElem?_eq_some_iff.1 hg).1, fun j hj => ?_⟩⟩
    have := World.ownsRow.cells h (g := g) rfl j vs[j] (List.getElem?_eq_getElem hj)
    rw [plainAdd] at this
    exact this
theorem OwnV.keep {w w' : World} {B : Nat} {e : TypeId} {v : Value} {vs : List Value} (h : OwnV w B e v vs) (hb : Below w.heap.size w w') : OwnV w' B e v vs := by
  refine World.ownsRow.kept (row := none) h ⟨hb.os, hb.tape, hb.output, hb.size, fun k hk _ => hb.block k hk⟩ ?_
  cases v.ownBlock <;> simp
theorem OwnV.lower {w : World} {B B' : Nat} {e : TypeId} {v : Value} {vs : List Value} (h : OwnV w B e v vs) (hB : B' ≤ B) : OwnV w B' e v vs := by
  refine ⟨h.1, ?_⟩
  rcases h.2 with h0 | ⟨g, cap, cur, hv, hb, r⟩
  · exact .inl h0
  · exact .inr ⟨g, cap, cur, hv, Nat.le_trans hB hb, r⟩
/-- A row with a place in it is a block's beginning. -/
theorem OwnV.form {w : World} {B : Nat} {e : TypeId} {v : Value} {vs : List Value} (h : OwnV w B e v vs) (h0 : 0 < vs.length) :
    ∃ g c, v = .slice (some ⟨g, 0, none⟩) vs.length c ∧ B ≤ g ∧ g < w.heap.size ∧ vs.length ≤ c ∧ c ≤ 9223372036854775807 ∧ (∀ j (hj : j < vs.length), w.cell? ⟨g, j, none⟩ = some vs[j]) ∧ (∀ j, w.frozen? ⟨g, j, none⟩ = false) := by
  rcases h.2 with ⟨_, h1⟩ | ⟨g, cap, cur, rfl, hb, hg, h1, h2, h3, h4⟩
  · omega
  · refine ⟨g, cap, rfl, hb, (Array.getElem?_eq_some_iff.1 hg).1, h1, by unfold maxLen at h2; omega, fun j hj => ?_, fun j => by simp [World.frozen?, hg]⟩
    have := World.ownsRow.cells h (g := g) rfl j vs[j] (List.getElem?_eq_getElem hj)
    rw [plainAdd, Nat.zero_add] at this
    exact this
theorem OwnV.set {w : World} {B g n c : Nat} {e : TypeId} {vs : List Value} (h : OwnV w B e (.slice (some ⟨g, 0, none⟩) n c) vs) (hl : vs.length = n) (j : Nat) (u : Value) :
    OwnV (w.setCell ⟨g, j, none⟩ u) B e (.slice (some ⟨g, 0, none⟩) n c) (vs.set j u) := by
  unfold OwnV at h ⊢
  rw [List.length_set]
  rw [hl] at h ⊢
  exact (World.ownsRow.stored h j u).1
theorem OwnV.below {B : Nat} {e : TypeId} {a w w' : World} {v : Value} {vs : List Value} (ho : OwnV w B e v vs) (h : Below B a w) (hB : B ≤ w.heap.size) (hg : w.grownBy w' v.ownBlock) : Below B a w' :=
  h.grown hg hB fun k hk => (World.ownsRow.lt ho k hk).1
theorem OwnV.empty (w : World) (e : TypeId) : OwnV (w.alloc (.cells #[] e)) w.heap.size e (.slice (some ⟨w.heap.size, 0, none⟩) 0 0) [] :=
  World.ownsRow_lit (base := w.heap.size) (e := e) (size := 1) w #[] 0 (Nat.le_refl _) (by simp [maxLen]) rfl
theorem OwnV.made {w : World} {B g n : Nat} {e : TypeId} {z : Value} (hz : z.cells = #[z]) (h : w.ownsRow B e 1 (.slice (some ⟨g, 0, none⟩) n n) n (madeCells z.cells (n * 1)).toList) : OwnV w B e (.slice (some ⟨g, 0, none⟩) n n) (List.replicate n z) := by
  unfold OwnV
  rw [hz, toList_madeCells_one, Nat.mul_one] at h
  rw [List.length_replicate]
  exact h
/-- A row that was just laid. -/
theorem Rowz.lit (w : World) (vs : List Value) (t : TypeId) (hl : vs.length ≤ maxLen) : Rowz (w.alloc (.cells vs.toArray t)) (.slice (some ⟨w.heap.size, 0, none⟩) vs.length vs.length) vs := by
  refine ⟨_, _, rfl, Nat.le_refl _, hl, .inr ⟨w.heap.size, 0, rfl, by simp, fun j hj => ?_⟩⟩
  rw [cell_of_row _ _ _ _ _ _ (heap_alloc_new w _)]
  simp [hj]
theorem Rowz.alloc {w : World} {v : Value} {vs : List Value} (h : Rowz w v vs) (o : Obj) : Rowz (w.alloc o) v vs := h.below ((Below.refl _ _).alloc (Nat.le_refl _) o)

section
variable {P : Program} (w : World)
theorem run_appV (B : Nat) (t ty e : TypeId) (by1 : Nat) (i : TypeInfo) (z : Value) (ht : P.underlying t = some (.slice e)) (hi : P.info? e = some i) (hz : i.zero = some z)
    (hsize : i.size = 1) (hby : i.bytes = by1) (hzs : z.cells.size = 1) (v x : Value) (l m : List Value) (hown : OwnV w B e v l) (hx : Rowz w x m) (h1 : ∀ u ∈ m, u.oneCell' = true)
    (hlen : (l.length + m.length) * by1 ≤ 140737488355328) (hml : l.length + m.length ≤ maxLen) (hbase : B ≤ w.heap.size) :
    ∃ v' w', (Builtin.append_ #[t, t] ty #[v, x]).run P w = .ok v' w' ∧ OwnV w' B e v' (l ++ m) ∧ w.grownBy w' v.ownBlock ∧ (v'.ownBlock = v.ownBlock ∨ v'.ownBlock = some w.heap.size) := by
  obtain ⟨A, c, rfl, hc1, hc2, h3⟩ := hx
  cases A with
  | none =>
    have hm : m = [] := by
      rcases h3 with h3 | ⟨b, off, h, _⟩
      · exact h3
      · cases h
    subst hm
    refine ⟨v, w, ?_, by simpa using hown, World.grownBy.refl w _, .inl rfl⟩
    rcases hown.2 with ⟨rfl, _⟩ | ⟨g, cap, cur, rfl, _, _, hnc, _⟩
    · simp [Builtin.append_, run_underlying ht, sizeOf, typeInfo, hi, Builtin.lenOf, Builtin.firstCells]
    · simp [Builtin.append_, run_underlying ht, sizeOf, typeInfo, hi, Builtin.lenOf, Builtin.firstCells, hnc, storeCells]
  | some ad =>
    have hcells : ∀ j u, m[j]? = some u → w.cell? (ad.add j) = some u := by
      intro j u hu
      obtain ⟨hj, rfl⟩ := List.getElem?_eq_some_iff.1 hu
      rcases h3 with rfl | ⟨b, off, h, _, hc⟩
      · simp at hj
      · injection h with h
        subst h
        rw [plainAdd]
        exact hc j hj
    obtain ⟨v', w', hrun, g2, g3, _, g5⟩ := run_append_own_at (P := P) w B t ty e i z 1 by1 ht hi hz hsize hby hzs (by omega) v l.length l hown ad m.length c m
      (by omega) hcells h1 hml hlen hbase
    refine ⟨v', w', hrun, ?_, g3, g5⟩
    unfold OwnV
    rw [List.length_append]
    exact g2
variable {w}
theorem wpList_appV {ops : Array Oper} {rest : List Oper} {o : Oper} {a : Act} {Q : Exit → Act → World → Prop} (hgd : o.guard = none) (s x : Operand) (t : TypeId)
    (ho : o.op = .call { callee := .builtin .append, args := #[s, x], argTypes := #[t, t] })
    (B : Nat) (e : TypeId) (by1 : Nat) (i : TypeInfo) (z : Value) (ht : P.underlying t = some (.slice e)) (hi : P.info? e = some i) (hz : i.zero = some z)
    (hsize : i.size = 1) (hby : i.bytes = by1) (hzs : z.cells.size = 1) (v : Value) (l : List Value) (hs : a.eval s = v) (hown : OwnV w B e v l)
    (xv : Value) (m : List Value) (hxv : a.eval x = xv) (hx : Rowz w xv m) (h1 : ∀ u ∈ m, u.oneCell' = true)
    (hlen : (l.length + m.length) * by1 ≤ 140737488355328) (hml : l.length + m.length ≤ maxLen) (hbase : B ≤ w.heap.size)
    (h : ∀ v' w', OwnV w' B e v' (l ++ m) → w.grownBy w' v.ownBlock → (v'.ownBlock = v.ownBlock ∨ v'.ownBlock = some w.heap.size) → wpList P ops Q rest (a.put o.dst v') w') : wpList P ops Q (o :: rest) a w := by
  refine wpList_plain hgd fun K hK => ?_
  obtain ⟨v', w', hrun, h2, h3, h4⟩ := run_appV (P := P) w B t o.type e by1 i z ht hi hz hsize hby hzs v xv l m hown hx h1 hlen hml hbase
  unfold Oper.wp execOp
  simp only [ho, resolve, invoke, builtin, Sem.run_bind, Sem.run_pure, Result.andThen_ok, List.map_toArray, List.map_cons, List.map_nil, hs, hxv, hrun]
  exact hK _ _ (h v' w' h2 h3 h4)
end

/-- Bools as cells. -/
def booC (l : List Bool) : List Value := l.map Value.bool
theorem booC_len (l : List Bool) : (booC l).length = l.length := by simp [booC]
theorem booC_one (l : List Bool) : ∀ u ∈ booC l, u.oneCell' = true := by
  intro u hu
  simp [booC] at hu
  rcases hu with ⟨_, rfl⟩ | ⟨_, rfl⟩ <;> rfl
theorem booC_set (l : List Bool) (j : Nat) (b : Bool) : booC (l.set j b) = (booC l).set j (.bool b) := by simp [booC, List.map_set]
/-- The slice value v holds these bools. -/
def Boos (w : World) (v : Value) (l : List Bool) : Prop := Rowz w v (booC l)
theorem Boos.nil (w : World) : Boos w (.slice none 0 0) [] := Rowz.nil w
theorem Boos.below {w w' : World} {v : Value} {l : List Bool} (h : Boos w v l) (hb : Below w.heap.size w w') : Boos w' v l := Rowz.below h hb
theorem Boos.form {w : World} {v : Value} {l : List Bool} (h : Boos w v l) : ∃ A n c, v = .slice A n c ∧ Hid (n = l.length) ∧ n ≤ c ∧ c ≤ 9223372036854775807 := by
  obtain ⟨A, n, c, e, N, r⟩ := Rowz.form h
  exact ⟨A, n, c, e, by rw [← booC_len]; exact N, r⟩
theorem Boos.at {w : World} {A : Option Addr} {n c k : Nat} {l : List Bool} (h : Boos w (.slice A n c) l) (hk : k < l.length) :
    ∃ b off, A = some ⟨b, off, none⟩ ∧ b < w.heap.size ∧ ∀ j (hj : j < l.length), w.cell? ⟨b, off + j, none⟩ = some (.bool l[j]) := by
  obtain ⟨b, off, e, hb, hc⟩ := Rowz.at h (k := k) (by rw [booC_len]; exact hk)
  refine ⟨b, off, e, hb, fun j hj => ?_⟩
  rw [hc j (by rw [booC_len]; exact hj)]
  simp [booC]
/-- .. in a row of the call's own. -/
def OwnB (w : World) (B : Nat) (v : Value) (l : List Bool) : Prop := OwnV w B 4 v (booC l)
theorem OwnB.boos {w : World} {B : Nat} {v : Value} {l : List Bool} (h : OwnB w B v l) : Boos w v l := OwnV.rowz h

theorem binfo : (Try.prog.info? 4).map (fun i => (i.zero, i.size, i.bytes)) = some (some (.bool false), 1, 1) := by kernel_rfl

/-- What a call that makes bools of its own leaves. -/
def MadeB (w : World) (l : List Bool) (e : Ending) (w' : World) : Prop := ∃ v', e = .returned v' ∧ OwnB w' w.heap.size v' l ∧ Below w.heap.size w w'
set_option maxHeartbeats 1000000 in
theorem booclone_any (w : World) (v : Value) (l : List Bool) (hv : Boos w v l) (hlen : l.length ≤ 70368744177664) :
    Calls Try.prog 34 #[v] w (MadeB w l) := by
  obtain ⟨i0, hi0, hz0, hz1, hz2⟩ := info_parts binfo
  obtain ⟨A, n, c, rfl, N, hnc, hcm⟩ := hv.form
  have HV := Lib.hid hv
  have HE := Lib.hid (OwnV.empty w 4)
  have HL : Hid ((booC l).length ≤ 70368744177664) := by rw [booC_len]; exact hlen
  have hq := fun W a n c n' c' => Lib.run_eql_slice_nil (P := Try.prog) W 22 4 a n c n' c' Try.underlying22
  cases A with
  | none =>
    have hl : l = [] := by
      obtain ⟨A', c', e, _, _, h3⟩ := hv
      injection e with e1 e2 e3
      subst e1
      rcases h3 with h3 | ⟨b, off, h, _⟩
      · simpa [booC] using h3
      · cases h
    subst hl
    obtain rfl : n = 0 := N.out
    clear hv N hlen
    go_enter Try.func34, Try.ntmps34
    go_wp2
    go_ret
    exact ⟨_, rfl, OwnV.nil _ _ _, Below.refl _ _⟩
  | some ad =>
    clear hv N hlen
    go_enter Try.func34, Try.ntmps34
    go_wp2_with (at_builtin; refine wpList_appV rfl (.tmp 5) (.tmp 6) _ rfl w.heap.size 4 1 i0 _ Try.underlying22 hi0 hz0 hz1 hz2 rfl _ [] rfl HE.out _ (booC l) rfl (HV.out.alloc _) (booC_one l) (by have := HL.out; simp only [List.length_nil]; omega) (by have := HL.out; simp only [List.length_nil, maxLen]; omega) (by simp) ?_; intro v1 w1 hown1 hg1 hat1; have hb1 := OwnV.below HE.out (below_new w _) (by simp) hg1)
    go_ret
    exact ⟨_, rfl, by rw [List.nil_append] at hown1; exact hown1, hb1⟩

/-- What slices.Index answers. -/
def InxOut (w : World) (b : Bool) (l : List Bool) (e : Ending) (w' : World) : Prop := ∃ r : Int, e = .returned (.int .i64 r) ∧ w = w' ∧ ((b ∈ l ∧ 0 ≤ r) ∨ (b ∉ l ∧ r < 0)) ∧ r ≤ 9223372036854775807 ∧ -1 ≤ r
def InxRel (l : List Bool) (b : Bool) (i : Value) : Prop := ∃ k : Nat, k ≤ l.length ∧ i = .int .i64 (k : Int) ∧ ∀ j, j < k → l[j]? = some (!b)
set_option maxHeartbeats 1000000 in
theorem booindex_any (w : World) (v : Value) (l : List Bool) (b : Bool) (hv : Boos w v l) (hlen : l.length ≤ 70368744177664) :
    Calls Try.prog 51 #[v, .bool b] w (InxOut w b l) := by
  obtain ⟨A, n, c, rfl, N, hnc, hcm⟩ := hv.form
  have HV := Lib.hid hv
  have HL := Lib.hid hlen
  clear hv hlen
  go_enter Try.func51, Try.ntmps51
  go_wp2
  go_loop [8] (fun i => InxRel l b i) (fun i => l.length - (intOf i).toNat)
  case atStart => exact ⟨0, by omega, rfl, fun j hj => by omega⟩
  case round =>
    obtain ⟨k, hk, rfl, hall⟩ := hrel
    have HA := Lib.hid hall
    clear hall
    have hn := N.out
    by_cases hlt : k < l.length
    · obtain ⟨bl, off, rfl, hb, hc⟩ := HV.out.at hlt
      have hcell := hc k hlt
      have hq : l[k]? = some l[k] := List.getElem?_eq_getElem hlt
      clear hc
      generalize l[k] = q at *
      have HQ := Lib.hid hq
      clear hq
      by_cases e : b = q
      · subst e
        have hm : b ∈ l := List.mem_of_getElem? HQ.out
        have HM := Lib.hid hm
        clear hm
        have hbe : (b == b) = true := by simp
        go_wp2
        go_ret
        exact ⟨_, rfl, rfl, .inl ⟨HM.out, by omega⟩, by have := HL.out; omega, by omega⟩
      · have he : (b == q) = false := by simpa using e
        have HQ2 : Hid (q = !b) := by revert e; cases b <;> cases q <;> simp [Hid]
        clear e
        go_wp2
        go_round
        case rel =>
          refine ⟨k + 1, by omega, by go_num, fun j hj => ?_⟩
          by_cases e : j = k
          · subst e; rw [HQ.out, HQ2.out]
          · exact HA.out j (by omega)
        case measure => simp [intOf]; omega
    · have hm : b ∉ l := fun hm => by
        obtain ⟨j, hj, e⟩ := List.getElem_of_mem hm
        have := HA.out j (by omega)
        rw [List.getElem?_eq_getElem hj, e] at this
        cases b <;> simp at this
      have HM := Lib.hid hm
      clear hm
      go_wp2
      go_ret
      exact ⟨_, rfl, rfl, .inr ⟨HM.out, by omega⟩, by omega, by omega⟩
theorem boocontains_any (w : World) (v : Value) (l : List Bool) (b : Bool) (hv : Boos w v l) (hlen : l.length ≤ 70368744177664) :
    Calls Try.prog 37 #[v, .bool b] w fun e w' => e = .returned (.bool (decide (b ∈ l))) ∧ w = w' := by
  have HI := Lib.hid (booindex_any w v l b hv hlen)
  generalize hd : decide (b ∈ l) = d
  have HD := Lib.hid hd
  clear hv hlen hd
  go_enter Try.func37, Try.ntmps37
  go_wp2_with fail
  refine HI.out.mono ?_
  rintro e w1 ⟨r, rfl, rfl, hr, _, _⟩
  have HR := Lib.hid hr
  clear hr
  go_wp2_with fail
  go_ret
  refine ⟨?_, rfl⟩
  rw [← HD.out]
  rcases HR.out with ⟨h1, h2⟩ | ⟨h1, h2⟩
  · simp [h1, h2]
  · simp [h1]; omega
def EqsRel (w : World) (l m : List Bool) (i : Value) (wr : World) : Prop := ∃ k : Nat, k ≤ l.length ∧ i = .int .i64 (k : Int) ∧ (∀ j, j < k → l[j]? = m[j]?) ∧ Below w.heap.size w wr
set_option maxHeartbeats 1000000 in
theorem booequal_any (w : World) (v x : Value) (l m : List Bool) (hv : Boos w v l) (hx : Boos w x m) :
    Calls Try.prog 36 #[v, x] w fun e w' => e = .returned (.bool (decide (l = m))) ∧ Below w.heap.size w w' := by
  obtain ⟨A, n, c, rfl, N, hnc, hcm⟩ := hv.form
  obtain ⟨A', n', c', rfl, N', hnc', hcm'⟩ := hx.form
  have HV := Lib.hid hv
  have HX := Lib.hid hx
  generalize hd : decide (l = m) = d
  have HD := Lib.hid hd
  clear hv hx hd
  by_cases hl : n = n'
  · subst hl
    go_enter Try.func36, Try.ntmps36
    go_wp2
    go_loopw [13] (fun i wr => EqsRel w l m i wr) (fun i _ => l.length - (intOf i).toNat)
    case atStart => exact ⟨0, by omega, rfl, fun j hj => by omega, Below.refl _ _⟩
    case round =>
      obtain ⟨k, hk, rfl, hall, hbel⟩ := hrel
      have HA := Lib.hid hall
      have HB := Lib.hid hbel
      clear hall hbel
      have hn := N.out
      have hn' := N'.out
      by_cases hlt : k < l.length
      · obtain ⟨b1, o1, rfl, hb1, hc1⟩ := (HV.out.below HB.out).at hlt
        obtain ⟨b2, o2, rfl, hb2, hc2⟩ := (HX.out.below HB.out).at (show k < m.length by omega)
        have d1 : wr.drew.cell? ⟨b1, o1 + k, none⟩ = some (.bool l[k]) := hc1 k hlt
        have d2 : wr.drew.cell? ⟨b2, o2 + k, none⟩ = some (.bool m[k]) := hc2 k (by omega)
        have q1 : l[k]? = some l[k] := List.getElem?_eq_getElem hlt
        have q2 : m[k]? = some m[k] := List.getElem?_eq_getElem (by omega)
        clear hc1 hc2
        generalize l[k] = x at *
        generalize m[k] = y at *
        have HQ : Hid (l[k]? = some x ∧ m[k]? = some y) := ⟨q1, q2⟩
        have HBD : Hid (Below w.heap.size w wr.drew) := HB.out.drew
        have D1 := Lib.hid d1
        have D2 := Lib.hid d2
        clear q1 q2 d1 d2
        go_wp2_with fail
        refine wp_region_R (R := fun x y => x = y) (by kernel_rfl) (fun _ => rfl) (fun h k => h.trans k) (by kernel_rfl) (fun d v c a w h => by cases d <;> exact h)
          [(0, false), (1, false), (2, false), (3, false), (4, false), (5, false), (6, false), (7, false), (8, false)] rfl (by kernel_rfl) (by kernel_rfl) ?_
        simp only [sel, List.getElem?_toArray, List.getElem?_cons_succ, List.getElem?_cons_zero]
        generalize wr.drew = wd at *
        iterate 3 (refine sch_take ?_ rfl ?_ ?_; rotate_left; (focus (intro u hu; go_simp <;> rfl)); simp only [Act.put, List.setIfInBounds_toArray, List.set_cons_zero, List.set_cons_succ])
        (refine sch_take ?_ rfl ?_ ?_; rotate_left; (focus (intro u hu; subst hu; have c1 := D1.out; go_simp <;> rfl)); simp only [Act.put, List.setIfInBounds_toArray, List.set_cons_zero, List.set_cons_succ])
        iterate 3 (refine sch_take ?_ rfl ?_ ?_; rotate_left; (focus (intro u hu; go_simp <;> rfl)); simp only [Act.put, List.setIfInBounds_toArray, List.set_cons_zero, List.set_cons_succ])
        (refine sch_take ?_ rfl ?_ ?_; rotate_left; (focus (intro u hu; subst hu; have c2 := D2.out; go_simp <;> rfl)); simp only [Act.put, List.setIfInBounds_toArray, List.set_cons_zero, List.set_cons_succ])
        (refine sch_take ?_ rfl ?_ ?_; rotate_left; (focus (intro u hu; go_simp <;> rfl)); simp only [Act.put, List.setIfInBounds_toArray, List.set_cons_zero, List.set_cons_succ])
        refine sch_nil ?_
        generalize he : (x == y) = q
        cases q with
        | true =>
          have e : x = y := by simpa using he
          subst e
          have HE := Lib.hid he
          clear he
          go_wp2_with fail
          go_roundw
          case rel =>
            refine ⟨k + 1, by omega, by go_num, fun j hj => ?_, HBD.out⟩
            by_cases e : j = k
            · subst e; rw [HQ.out.1, HQ.out.2]
            · exact HA.out j (by omega)
          case measure => simp [intOf]; omega
        | false =>
          have e : x ≠ y := by simpa using he
          have HE := Lib.hid he
          clear he
          have hf : d = false := by
            rw [← HD.out]
            simp only [decide_eq_false_iff_not]
            rintro rfl
            have := HQ.out
            rw [this.1] at this
            exact e (by simpa using this.2)
          subst hf
          clear e
          go_wp2_with fail
          go_ret
          exact ⟨rfl, HBD.out⟩
      · have hf : d = true := by
          rw [← HD.out]
          simp only [decide_eq_true_eq]
          apply List.ext_getElem?
          intro j
          by_cases hj : j < k
          · exact HA.out j hj
          · rw [List.getElem?_eq_none (by omega), List.getElem?_eq_none (by omega)]
        subst hf
        have hkn : ¬ (k : Int) < (n : Int) := by omega
        go_wp2_with fail
        go_ret
        exact ⟨rfl, HB.out⟩
  · have hl' := ne_int hl
    have hf : d = false := by
      rw [← HD.out]
      simp only [decide_eq_false_iff_not]
      rintro rfl
      exact hl (N.out.trans N'.out.symm)
    subst hf
    clear hl
    go_enter Try.func36, Try.ntmps36
    go_wp2
    go_ret
    exact ⟨rfl, Below.refl _ _⟩
end Go.Proofs.Ytncjobeahpjnpaa
