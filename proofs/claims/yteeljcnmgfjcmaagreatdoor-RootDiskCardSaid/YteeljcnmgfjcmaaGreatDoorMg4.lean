/-
  The texts SecV, SecW, SecX, Mach, SecR, SecY in one. Conditions: as each part says.
-/
import Derived.Test.YteeljcnmgfjcmaaGreatDoorMg3
import Derived.Test.YteeljcnmgfjcmaaGreatDoorMg1
import Derived.RegionTactic
/-
  The document's disk (tallymanref04) in memory, and its small functions by their contracts: New, Sectors, fails, find, Read, Fail, Cached, Image. Conditions: none but that the disk lies there.
-/
namespace Go.Proofs.YteeljcnmgfjcmaaGreatDoor
open Go.RowKit Go.Maps
set_option maxRecDepth 100000

/-- How many operations till the fault, as the document's disk keeps it. -/
def fuseI : Option Nat → Int
  | some n => (n : Int)
  | none => -1
structure RefAt (w : World) (g : Nat) (s : St) (ib ic : Nat) (vn vc : Value) (vs : List Value) : Prop where
  obj : w.heap[g]? = some (.cells #[.slice (some ⟨ib, 0, none⟩) s.B.length ic, vn, vc, .int .i64 (fuseI s.F)] 54 (0, 0))
  img : Own w 0 5 (.slice (some ⟨ib, 0, none⟩) s.B.length ic) s.B
  ord : w.ownsRow 0 3 1 vn s.C.length (inz (keysC s.C))
  rows : w.ownsRow 0 50 1 vc s.C.length vs
  each : ∀ j (hj : j < s.C.length) (hv : j < vs.length), Own w 0 5 vs[j] s.C[j].2 ∧ vs[j].ownBlock ≠ some ib
structure RFoot (S : Nat → Prop) (w : World) (g ib : Nat) (vn vc : Value) (vs : List Value) : Prop where
  g : S g
  ib : S ib
  n : ∀ k, vn.ownBlock = some k → S k
  c : ∀ k, vc.ownBlock = some k → S k
  r : ∀ v ∈ vs, ∀ k, v.ownBlock = some k → S k
  lt : ∀ k, S k → k < w.heap.size
def Ref (w : World) (S : Nat → Prop) (g : Nat) (s : St) : Prop := ∃ ib ic vn vc vs, RefAt w g s ib ic vn vc vs ∧ RFoot S w g ib vn vc vs ∧ OkSt s
theorem RefAt.len {w : World} {g ib ic : Nat} {s : St} {vn vc : Value} {vs : List Value} (h : RefAt w g s ib ic vn vc vs) : vs.length = s.C.length := by simpa using h.rows.1
theorem RefAt.same {w w' : World} {S : Nat → Prop} {g ib ic : Nat} {s : St} {vn vc : Value} {vs : List Value} (h : RefAt w g s ib ic vn vc vs) (F : RFoot S w g ib vn vc vs) (hb : ∀ k, S k → w'.heap[k]? = w.heap[k]?) : RefAt w' g s ib ic vn vc vs := by
  refine ⟨(hb g F.g).trans h.obj, ownsRow_same h.img (fun k hk => hb k ?_), ownsRow_same h.ord (fun k hk => hb k (F.n k hk)), ownsRow_same h.rows (fun k hk => hb k (F.c k hk)), fun j hj hv => ⟨ownsRow_same (h.each j hj hv).1 (fun k hk => hb k (F.r _ (List.getElem_mem hv) k hk)), (h.each j hj hv).2⟩⟩
  simp [Value.ownBlock] at hk
  exact hk ▸ F.ib
theorem Ref.same {w w' : World} {S : Nat → Prop} {g : Nat} {s : St} (h : Ref w S g s) (hs : w.heap.size ≤ w'.heap.size) (hb : ∀ k, S k → w'.heap[k]? = w.heap[k]?) : Ref w' S g s := by
  obtain ⟨ib, ic, vn, vc, vs, h, F, ok⟩ := h
  exact ⟨ib, ic, vn, vc, vs, h.same F hb, ⟨F.g, F.ib, F.n, F.c, F.r, fun k hk => Nat.lt_of_lt_of_le (F.lt k hk) hs⟩, ok⟩
theorem Ref.lt {w : World} {S : Nat → Prop} {g : Nat} {s : St} (h : Ref w S g s) : ∀ k, S k → k < w.heap.size := by
  obtain ⟨ib, ic, vn, vc, vs, _, F, _⟩ := h
  exact F.lt
theorem Ref.ok {w : World} {S : Nat → Prop} {g : Nat} {s : St} (h : Ref w S g s) : OkSt s := by
  obtain ⟨ib, ic, vn, vc, vs, _, _, ok⟩ := h
  exact ok
theorem Ref.trn {w w' : World} {S T : Nat → Prop} {g : Nat} {s : St} (h : Ref w S g s) (ht : Trn T w w') (hST : ∀ k, S k → ¬ T k) : Ref w' S g s := h.same ht.size (fun k hk => ht.block k (h.lt k hk) (hST k hk))
theorem Ref.below {w w' : World} {S : Nat → Prop} {g : Nat} {s : St} (h : Ref w S g s) (ht : Below w.heap.size w w') : Ref w' S g s := h.trn (T := fun _ => False) (Trn.of_below ht) (fun _ _ f => f)
theorem Ref.wide {w : World} {S T : Nat → Prop} {g : Nat} {s : St} (h : Ref w S g s) (hT : ∀ k, S k → T k) (hlt : ∀ k, T k → k < w.heap.size) : Ref w T g s := by
  obtain ⟨ib, ic, vn, vc, vs, h, F, ok⟩ := h
  exact ⟨ib, ic, vn, vc, vs, h, ⟨hT _ F.g, hT _ F.ib, fun k hk => hT k (F.n k hk), fun k hk => hT k (F.c k hk), fun v hv k hk => hT k (F.r v hv k hk), hlt⟩, ok⟩
theorem Ref.more {w' w0 : World} {S : Nat → Prop} {g : Nat} {s : St} (h : Ref w' S g s) (hs : w0.heap.size ≤ w'.heap.size) (hl : ∀ k, S k → k < w0.heap.size) : Ref w' (more S w0 w') g s := h.wide (fun _ => .inl) (more_lt hs hl)
theorem robj_cells {w : World} {g : Nat} {a b c d : Value} (h : w.heap[g]? = some (.cells #[a, b, c, d] 54 (0, 0))) :
    w.cell? ⟨g, 0, none⟩ = some a ∧ w.cell? ⟨g, 1, none⟩ = some b ∧ w.cell? ⟨g, 2, none⟩ = some c ∧ w.cell? ⟨g, 3, none⟩ = some d ∧ w.frozen? ⟨g, 1, none⟩ = false ∧ w.frozen? ⟨g, 2, none⟩ = false ∧ w.frozen? ⟨g, 3, none⟩ = false := by
  refine ⟨?_, ?_, ?_, ?_, by simp [World.frozen?, h], by simp [World.frozen?, h], by simp [World.frozen?, h]⟩ <;> (rw [cell_of_row _ _ _ _ _ _ h]; rfl)
section
variable {w : World} {g ib ic : Nat} {s : St} {vn vc : Value} {vs : List Value}
theorem RefAt.ib_g (h : RefAt w g s ib ic vn vc vs) : ib ≠ g := by
  obtain ⟨cur, hc⟩ := ownsRow_block h.img (k := ib) rfl
  exact tag_ne hc h.obj (by decide)
theorem RefAt.n_g (h : RefAt w g s ib ic vn vc vs) {k : Nat} (hk : vn.ownBlock = some k) : k ≠ g ∧ k ≠ ib := by
  obtain ⟨cur, hc⟩ := ownsRow_block h.ord hk
  obtain ⟨cur', hc'⟩ := ownsRow_block h.img (k := ib) rfl
  exact ⟨tag_ne hc h.obj (by decide), tag_ne hc hc' (by decide)⟩
theorem RefAt.c_g (h : RefAt w g s ib ic vn vc vs) {k : Nat} (hk : vc.ownBlock = some k) : k ≠ g ∧ k ≠ ib := by
  obtain ⟨cur, hc⟩ := ownsRow_block h.rows hk
  obtain ⟨cur', hc'⟩ := ownsRow_block h.img (k := ib) rfl
  exact ⟨tag_ne hc h.obj (by decide), tag_ne hc hc' (by decide)⟩
theorem RefAt.c_n (h : RefAt w g s ib ic vn vc vs) {k : Nat} (hk : vc.ownBlock = some k) : vn.ownBlock ≠ some k := by
  intro e
  obtain ⟨cur, hc⟩ := ownsRow_block h.rows hk
  obtain ⟨cur', hc'⟩ := ownsRow_block h.ord e
  exact tag_ne hc hc' (by decide) rfl
theorem RefAt.r_tag (h : RefAt w g s ib ic vn vc vs) {j : Nat} (hj : j < s.C.length) (hv : j < vs.length) {k : Nat} (hk : vs[j].ownBlock = some k) : k ≠ g ∧ k ≠ ib ∧ vn.ownBlock ≠ some k ∧ vc.ownBlock ≠ some k := by
  obtain ⟨cur, hc⟩ := ownsRow_block (h.each j hj hv).1 hk
  refine ⟨tag_ne hc h.obj (by decide), fun e => (h.each j hj hv).2 (e ▸ hk), fun e => ?_, fun e => ?_⟩
  · obtain ⟨cur', hc'⟩ := ownsRow_block h.ord e
    exact tag_ne hc hc' (by decide) rfl
  · obtain ⟨cur', hc'⟩ := ownsRow_block h.rows e
    exact tag_ne hc hc' (by decide) rfl
/-- The fuse set anew. -/
theorem RefAt.setF (h : RefAt w g s ib ic vn vc vs) (F' : Option Nat) : RefAt (w.setCell ⟨g, 3, none⟩ (.int .i64 (fuseI F'))) g { s with F := F' } ib ic vn vc vs := by
  refine ⟨?_, ownsRow_same h.img (fun k hk => heap_cell_other ?_), ownsRow_same h.ord (fun k hk => heap_cell_other (h.n_g hk).1), ownsRow_same h.rows (fun k hk => heap_cell_other (h.c_g hk).1), fun j hj hv => ⟨ownsRow_same (h.each j hj hv).1 (fun k hk => heap_cell_other (h.r_tag hj hv hk).1), (h.each j hj hv).2⟩⟩
  · have := h.obj
    simp [World.setCell, Array.getElem?_modify, this]
  · simp [Value.ownBlock] at hk
    exact hk ▸ h.ib_g
end
def RFailed (w : World) (S : Nat → Prop) (g : Nat) (s : St) (e : Ending) (w' : World) : Prop := e = .returned (.bool (blows s.F)) ∧ Ref w' S g (tick s) ∧ Trn S w w' ∧ w'.heap.size = w.heap.size
set_option maxHeartbeats 1000000 in
theorem rfails_is (w : World) (S : Nat → Prop) (g : Nat) (s : St) (h : Ref w S g s) :
    Calls Tryz.prog 70 #[.pointer (some ⟨g, 0, none⟩)] w (RFailed w S g s) := by
  have H := Lib.hid h
  obtain ⟨ib, ic, vn, vc, vs, ha, F, ok⟩ := h
  obtain ⟨_, _, _, c3, _, _, f3⟩ := robj_cells ha.obj
  have HA := Lib.hid ha
  have HF := Lib.hid F
  have HO := Lib.hid ok
  clear ha F
  cases hF : s.F with
  | none =>
    rw [hF] at c3
    have e1 : tick s = s := tick_none hF
    have c3' : w.cell? ⟨g, 3, none⟩ = some (.int .i64 (-1)) := c3
    clear c3
    go_enter Tryz.func70, Tryz.ntmps70
    go_wp2_with fail
    go_ret
    exact ⟨by rw [hF]; rfl, by rw [e1]; exact H.out, Trn.refl _ _, rfl⟩
  | some n =>
    rw [hF] at c3
    have c3' : w.cell? ⟨g, 3, none⟩ = some (.int .i64 (n : Int)) := c3
    have hfm := ok.fuse n hF
    have HX := Lib.hid (HA.out.setF (tickF s.F))
    have e2 : fuseI (tickF s.F) = (n : Int) - 1 := by
      rw [hF]
      cases n with
      | zero => rfl
      | succ n => show (n : Int) = _; omega
    rw [e2] at HX
    have eb : blows s.F = decide ((n : Int) - 1 < 0) := by
      rw [hF]
      cases n with
      | zero => rfl
      | succ n => 
        have : ¬ (((n + 1 : Nat) : Int) - 1 < 0) := by omega
        rw [decide_eq_false this]; rfl
    have HEB := Lib.hid eb
    clear c3 e2 eb
    go_enter Tryz.func70, Tryz.ntmps70
    go_wp2_with fail
    go_ret
    refine ⟨by rw [HEB.out]; first | rfl | simp, ⟨ib, ic, vn, vc, vs, HX.out, ⟨HF.out.g, HF.out.ib, HF.out.n, HF.out.c, HF.out.r, fun k hk => by rw [setCell_size]; exact HF.out.lt k hk⟩, HO.out.tick⟩, (Trn.refl S w).setCell _ (fun _ => HF.out.g), setCell_size _ _ _⟩
theorem rsectors_is (w : World) (S : Nat → Prop) (g : Nat) (s : St) (h : Ref w S g s) :
    Calls Tryz.prog 49 #[.pointer (some ⟨g, 0, none⟩)] w fun e w' => e = .returned (.int .i64 ((secs s : Nat) : Int)) ∧ w = w' := by
  obtain ⟨ib, ic, vn, vc, vs, ha, F, ok⟩ := h
  obtain ⟨c0, _, _, _, _, _, _⟩ := robj_cells ha.obj
  have hsh := ok.short
  clear ha F ok
  unfold secs
  generalize s.B.length = n at *
  go_enter Tryz.func49, Tryz.ntmps49
  go_wp2_with fail
  go_ret
  exact ⟨ret_int (by omega), rfl⟩
set_option maxHeartbeats 1000000 in
theorem rfail_is (w : World) (S : Nat → Prop) (g : Nat) (s : St) (a : Int) (h : Ref w S g s) (hm : -9223372036854775808 ≤ a ∧ a ≤ 9223372036854775807) :
    Calls Tryz.prog 13 #[.pointer (some ⟨g, 0, none⟩), .int .i64 a] w fun e w' => e = .returned (.int .i64 0) ∧ Ref w' S g (failS s a) ∧ Trn S w w' := by
  obtain ⟨ib, ic, vn, vc, vs, ha, F, ok⟩ := h
  obtain ⟨_, _, _, c3, _, _, f3⟩ := robj_cells ha.obj
  have HX := Lib.hid (ha.setF (if a < 0 then none else some a.toNat))
  have e1 : fuseI (if a < 0 then none else some a.toNat) = if a < 0 then -1 else a := by
    split
    · rfl
    · show ((a.toNat : Nat) : Int) = a; omega
  rw [e1] at HX
  have HF := Lib.hid F
  have HO := Lib.hid ok
  clear ha F ok e1
  by_cases ha : a < 0
  · rw [if_pos ha] at HX
    by_cases h1 : a = -1
    · subst h1
      go_enter Tryz.func13, Tryz.ntmps13
      go_wp2_with fail
      go_ret
      exact ⟨rfl, ⟨ib, ic, vn, vc, vs, HX.out, ⟨HF.out.g, HF.out.ib, HF.out.n, HF.out.c, HF.out.r, fun k hk => by rw [setCell_size]; exact HF.out.lt k hk⟩, HO.out.fail (by omega)⟩, (Trn.refl S w).setCell _ (fun _ => HF.out.g)⟩
    · have h2 : ¬ (-1 : Int) < a := by omega
      have h3 : ¬ (-1 : Int) ≤ a := by omega
      have h4 : a < -1 := by omega
      go_enter Tryz.func13, Tryz.ntmps13
      go_wp2_with fail
      go_ret
      exact ⟨rfl, ⟨ib, ic, vn, vc, vs, HX.out, ⟨HF.out.g, HF.out.ib, HF.out.n, HF.out.c, HF.out.r, fun k hk => by rw [setCell_size]; exact HF.out.lt k hk⟩, HO.out.fail (by omega)⟩, (Trn.refl S w).setCell _ (fun _ => HF.out.g)⟩
  · rw [if_neg ha] at HX
    have h2 : (-1 : Int) < a := by omega
    have h3 : (-1 : Int) ≤ a := by omega
    go_enter Tryz.func13, Tryz.ntmps13
    go_wp2_with fail
    go_ret
    exact ⟨rfl, ⟨ib, ic, vn, vc, vs, HX.out, ⟨HF.out.g, HF.out.ib, HF.out.n, HF.out.c, HF.out.r, fun k hk => by rw [setCell_size]; exact HF.out.lt k hk⟩, HO.out.fail hm.2⟩, (Trn.refl S w).setCell _ (fun _ => HF.out.g)⟩
end Go.Proofs.YteeljcnmgfjcmaaGreatDoor

/-
  The document's disk (tallymanref04): New, find, Read, Cached, Image by their contracts. Conditions: none but that the disk lies there.
-/
namespace Go.Proofs.YteeljcnmgfjcmaaGreatDoor
open Go.RowKit Go.Maps
set_option maxRecDepth 100000

def Refed (w : World) (s : St) (e : Ending) (w' : World) : Prop :=
  ∃ g, e = .returned (.tuple #[.pointer (some ⟨g, 0, none⟩), .int .i64 0]) ∧ Ref w' (fun k => w.heap.size ≤ k ∧ k < w'.heap.size) g s ∧ Below w.heap.size w w'
theorem own_new {w1 : World} {B n : Nat} (h : w1.ownsRow B 5 1 (.slice (some ⟨B, 0, none⟩) (512 * n) (512 * n)) (512 * n) (madeCells (Value.cells (.int .u8 0)) (512 * n * 1)).toList) : Own w1 0 5 (.slice (some ⟨B, 0, none⟩) (newS n).B.length (512 * n)) (newS n).B := by
  have e1 : (madeCells (Value.cells (.int .u8 0)) (512 * n * 1)).toList = byc (List.replicate (512 * n) 0) := by
    rw [show (Value.cells (.int .u8 0)) = #[.int .u8 0] from rfl, toList_madeCells_one, Nat.mul_one]
    simp [byc]
  rw [e1] at h
  have h2 : Own w1 B 5 (.slice (some ⟨B, 0, none⟩) (512 * n) (512 * n)) (List.replicate (512 * n) 0) := by
    unfold Own
    rw [List.length_replicate]
    exact h
  have h3 := h2.lower (Nat.zero_le _)
  show Own w1 0 _ (.slice _ (List.replicate (512 * n) (0 : UInt8)).length _) (List.replicate (512 * n) 0)
  rw [List.length_replicate]
  exact h3
set_option maxHeartbeats 1000000 in
theorem rnew_any (w : World) (n : Nat) (h0 : 0 < n) (h1 : n ≤ 32768) : Calls Tryz.prog 7 #[.int .i64 (n : Int)] w (Refed w (newS n)) := by
  obtain ⟨i0, hi0, hz0, hz1, hz2⟩ := info_parts uinfo
  have h2 : ¬ (n : Int) < 1 := by omega
  have h3 : ¬ (32768 : Int) < (n : Int) := by omega
  go_enter Tryz.func7, Tryz.ntmps7
  go_wp2_with (at_make; refine wpList_make_full _ rfl _ _ 50 rfl w.heap.size 5 i0 _ 1 Tryz.underlying50 hi0 hz0 hz1 _ _ _ _ (512 * n) rfl rfl (by omega) (by omega) (by rw [hz2]; omega) (by simp only [maxLen]; omega) (Nat.le_refl _) ?_; intro w1 hown1 hg1; have HW := Lib.hid (own_new hown1); have HL := Lib.hid (World.ownsRow.lt hown1 w.heap.size rfl).2; have HG := Lib.hid (below_none hg1); clear hown1 hg1)
  go_ret2
  have hlen : (newS n).B.length = 512 * n := List.length_replicate
  refine ⟨w1.heap.size, rfl, ⟨w.heap.size, 512 * n, .slice none 0 0, .slice none 0 0, [], ⟨?_, World.ownsRow.alloc HW.out _, World.ownsRow_nil _ _ _ _, World.ownsRow_nil _ _ _ _, fun j hj => absurd hj (by show ¬ j < 0; omega)⟩,
    ⟨⟨HG.out.size, by simp⟩, ⟨Nat.le_refl _, by have := HL.out; simp; omega⟩, fun k hk => (by cases hk), fun k hk => (by cases hk), fun v hv => (by cases hv), fun k hk => hk.2⟩, OkSt.new h0 h1⟩, HG.out.alloc HG.out.size _⟩
  rw [hlen]
  exact heap_alloc_new w1 _
theorem rnew_bad (w : World) (x : Int) (h : x < 1 ∨ 32768 < x) : Calls Tryz.prog 7 #[.int .i64 x] w fun e w' => e = .returned (.tuple #[.pointer none, .int .i64 2]) ∧ w = w' := by
  by_cases h1 : x < 1
  · go_enter Tryz.func7, Tryz.ntmps7
    go_wp2_with fail
    go_ret2
    exact ⟨rfl, rfl⟩
  · have h2 : (32768 : Int) < x := by omega
    go_enter Tryz.func7, Tryz.ntmps7
    go_wp2_with fail
    go_ret2
    exact ⟨rfl, rfl⟩
/-- Where a sector stands in the cache. -/
def Found (C : Cch) (n : Nat) (w : World) (e : Ending) (w' : World) : Prop :=
  w = w' ∧ ((∃ j, ∃ hj : j < C.length, C[j].1 = n ∧ e = .returned (.int .i64 (j : Int))) ∨ ((∀ j (hj : j < C.length), C[j].1 ≠ n) ∧ e = .returned (.int .i64 (-1))))
def FindRel (C : Cch) (n : Nat) (i : Value) : Prop := ∃ k : Nat, k ≤ C.length ∧ i = .int .i64 (k : Int) ∧ ∀ j (hj : j < C.length), j < k → C[j].1 ≠ n
theorem found_next {C : Cch} {n k : Nat} {hk : k < C.length} (h : ∀ j (hj : j < C.length), j < k → C[j].1 ≠ n) (he : ¬ C[k].1 = n) : ∀ j (hj : j < C.length), j < k + 1 → C[j].1 ≠ n := by
  intro j hj hjk
  by_cases h' : j < k
  · exact h j hj h'
  · obtain rfl : j = k := by omega
    exact he
set_option maxHeartbeats 1000000 in
theorem rfind_is (w : World) (S : Nat → Prop) (g : Nat) (s : St) (n : Nat) (h : Ref w S g s) :
    Calls Tryz.prog 71 #[.pointer (some ⟨g, 0, none⟩), .int .i64 (n : Int)] w (Found s.C n w) := by
  obtain ⟨ib, ic, vn, vc, vs, ha, F, ok⟩ := h
  obtain ⟨_, c1, _, _, _, _, _⟩ := robj_cells ha.obj
  have HR := Lib.hid (ints_rowz ha.ord)
  have hcn := ok.cnt
  obtain ⟨A, m, c, rfl, N, hnc, hcm⟩ := (ints_rowz ha.ord).form
  have N' : Hid (m = s.C.length) := by have := N.out; rw [inz_len, keysC_len] at this; exact this
  clear ha F ok N
  go_enter Tryz.func71, Tryz.ntmps71
  go_wp2_with fail
  go_loop [5] (fun i => FindRel s.C n i) (fun i => m - (intOf i).toNat)
  case atStart => exact ⟨0, by omega, rfl, fun j _ h => by omega⟩
  case round =>
    obtain ⟨k, hk, rfl, hall⟩ := hrel
    by_cases hlt : k < s.C.length
    · have hkm : (k : Int) < (m : Int) := by have := N'.out; omega
      obtain ⟨b, off, rfl, hb, hc⟩ := HR.out.at (k := k) (by rw [inz_len, keysC_len]; exact hlt)
      have hck := hc k (by rw [inz_len, keysC_len]; exact hlt)
      have hck' : w.cell? ⟨b, off + k, none⟩ = some (.int .i64 ((s.C[k].1 : Nat) : Int)) := by rw [hck]; simp [inz, keysC]
      have HALL := Lib.hid hall
      clear hck hc hb hall
      by_cases he : s.C[k].1 = n
      · have hq : (((s.C[k].1 : Nat) : Int) == (n : Int)) = true := by rw [he]; simp
        have HE : Hid (∃ hj : k < s.C.length, s.C[k].1 = n) := ⟨hlt, he⟩
        clear he
        generalize s.C[k].1 = y at hck' hq
        go_wp2_with fail
        go_ret
        obtain ⟨h1, h2⟩ := HE.out
        exact ⟨rfl, .inl ⟨k, h1, h2, rfl⟩⟩
      · have hq := ne_int he
        have HE := Lib.hid (found_next HALL.out he)
        clear he
        generalize s.C[k].1 = y at hck' hq
        go_wp2_with fail
        go_round
        case rel => exact ⟨k + 1, by omega, by go_num, HE.out⟩
        case measure => simp [intOf]; omega
    · have hkm : ¬ (k : Int) < (m : Int) := by have := N'.out; omega
      go_wp2_with fail
      go_ret
      exact ⟨rfl, .inr ⟨fun j hj => hall j hj (by omega), rfl⟩⟩

def RRed (w : World) (S : Nat → Prop) (g : Nat) (r : List UInt8 × Nat × St) (e : Ending) (w' : World) : Prop :=
  ∃ v, e = .returned (.tuple #[v, .int .i64 ((r.2.1 : Nat) : Int)]) ∧ Own w' w.heap.size 5 v r.1 ∧ Ref w' S g r.2.2 ∧ Trn S w w'
theorem Ref.cells {w : World} {S : Nat → Prop} {g : Nat} {s : St} (h : Ref w S g s) : ∃ ib ic A1 n1 c1 A2 n2 c2, w.cell? ⟨g, 0, none⟩ = some (.slice (some ⟨ib, 0, none⟩) s.B.length ic) ∧ w.cell? ⟨g, 1, none⟩ = some (.slice A1 n1 c1) ∧ w.cell? ⟨g, 2, none⟩ = some (.slice A2 n2 c2) ∧
    Byt w (.slice (some ⟨ib, 0, none⟩) s.B.length ic) s.B ∧ w.ownsRow 0 3 1 (.slice A1 n1 c1) s.C.length (inz (keysC s.C)) ∧ (∃ vs, Rowz w (.slice A2 n2 c2) vs ∧ vs.length = s.C.length ∧ ∀ j (hj : j < s.C.length) (hv : j < vs.length), Byt w vs[j] s.C[j].2) ∧
    (n1 = s.C.length ∧ n1 ≤ c1 ∧ c1 ≤ 9223372036854775807) ∧ (n2 = s.C.length ∧ n2 ≤ c2 ∧ c2 ≤ 9223372036854775807) ∧ s.B.length ≤ ic ∧ ic ≤ 9223372036854775807 := by
  obtain ⟨ib, ic, vn, vc, vs, h, F, ok⟩ := h
  obtain ⟨c0, c1, c2, _, _, _, _⟩ := robj_cells h.obj
  obtain ⟨A1, n1, k1, rfl, N1, h1, h1'⟩ := (ints_rowz h.ord).form
  have hr : Rowz w vc vs := by
    have hl : vs.length = s.C.length := h.len
    have := h.rows
    rw [← hl] at this
    exact OwnR.rowz this
  obtain ⟨A2, n2, k2, rfl, N2, h2, h2'⟩ := hr.form
  obtain ⟨_, c', e, h3, h4, _⟩ := Own.byt h.img
  have e3 : c' = ic := by injection e with _ _ e3; exact e3.symm
  subst e3
  unfold maxLen at h4
  have hn1 : n1 = s.C.length := by have := N1.out; rw [inz_len, keysC_len] at this; exact this
  have hn2 : n2 = s.C.length := N2.out.trans h.len
  exact ⟨ib, c', A1, n1, k1, A2, n2, k2, c0, c1, c2, Own.byt h.img, h.ord, ⟨vs, hr, h.len, fun j hj hv => Own.byt (h.each j hj hv).1⟩, ⟨hn1, h1, h1'⟩, ⟨hn2, h2, h2'⟩, h3, by omega⟩
set_option maxRecDepth 100000 in
set_option maxHeartbeats 1000000 in
theorem rread_is (w : World) (S : Nat → Prop) (g : Nat) (s : St) (x : Int) (h : Ref w S g s) :
    Calls Tryz.prog 56 #[.pointer (some ⟨g, 0, none⟩), .int .i64 x] w (RRed w S g (readR s x)) := by
  obtain ⟨i0, hi0, hz0, hz1, hz2⟩ := info_parts uinfo
  have H := Lib.hid h
  have HS := Lib.hid (rsectors_is w S g s h)
  have HF := Lib.hid (rfails_is w S g s h)
  have hok := h.ok
  clear h
  by_cases h0 : x < 0
  · have HR : Hid (readR s x = ([], 2, s)) := by rw [Hid]; unfold readR; rw [if_neg (by omega)]
    go_enter Tryz.func56, Tryz.ntmps56
    go_wp2_with fail
    go_ret2
    rw [HR.out]
    exact ⟨_, rfl, World.ownsRow_nil _ _ _ 1, H.out, Trn.refl _ _⟩
  · obtain ⟨n, rfl⟩ := Int.eq_ofNat_of_zero_le (show 0 ≤ x by omega)
    by_cases h1 : n < secs s
    · have h1' : ¬ ((secs s : Nat) : Int) ≤ (n : Int) := by omega
      unfold RFailed at HF
      cases hbl : blows s.F
      · have HR : Hid (readR s (n : Int) = (readB s n, 0, tick s)) := by rw [Hid]; unfold readR; rw [if_pos ⟨by omega, by omega⟩, hbl]; rfl
        rw [hbl] at HF
        have hn2 : 512 * (n + 1) ≤ s.B.length := by have := hok.whole; omega
        have hsh := hok.short
        clear hbl
        generalize secs s = sec at *
        go_enter Tryz.func56, Tryz.ntmps56
        go_wp2_with fail
        refine HS.out.mono ?_
        rintro e w1 ⟨rfl, rfl⟩
        go_wp2_with fail
        refine HF.out.mono ?_
        rintro e w1 ⟨rfl, hd1, ht1, hs1⟩
        have HD1 := Lib.hid hd1
        have HT1 := Lib.hid ht1
        have HS1 := Lib.hid hs1
        have HE := Lib.hid (Own.empty w1)
        have RF := Lib.hid (rfind_is w1 S g (tick s) n hd1)
        obtain ⟨ib, ic, A1, n1, c1, A2, n2, c2, d0, d1, d2, hb, _, ⟨vs, hvs, hvl, hve⟩, _, ⟨hn2c, hn2', hn2''⟩, hic, hic'⟩ := (hd1.below (below_new w1 (.cells #[] 5))).cells
        have hokt := hd1.ok
        clear hd1 ht1 hs1
        go_wp2_with fail
        refine RF.out.mono ?_
        rintro e w2 ⟨rfl, hfo⟩
        rcases hfo with ⟨j, hj, hjn, rfl⟩ | ⟨hno, rfl⟩
        · have hj0 : (0 : Int) ≤ (j : Int) := by omega
          obtain ⟨b, off, rfl, hlt, hc⟩ := hvs.at (k := j) (by omega)
          have hcj := hc j (by omega)
          have HV := Lib.hid (hve j hj (by omega))
          have hjn2 : (j : Int) < (n2 : Int) := by rw [hn2c]; omega
          have HB : Hid (readB (tick s) n = (tick s).C[j].2) := by
            rw [Hid]
            unfold readB
            rw [← hjn, lookC_at hokt.once j hj]; rfl
          have HL : Hid ((tick s).C[j].2.length = 512) := (hokt.rows _ (List.getElem_mem hj)).2
          clear hc hve hvs hlt
          generalize (tick s).C[j].2 = l at *
          generalize vs[j]'(by omega) = vj at *
          go_wp2_with (at_builtin; refine wpList_app _ rfl (.tmp 22) (.tmp 29) _ rfl w1.heap.size 5 i0 _ Tryz.underlying50 hi0 hz0 hz1 hz2 rfl _ [] rfl HE.out _ l rfl HV.out (by have := HL.out; simp; omega) (by simp) ?_; intro v3 w3 hown3 hg3 hat3; have HB3 := Lib.hid (below_own (below_new w1 _) (by simp) HE.out hg3); have HO3 := Lib.hid hown3; clear hown3 hg3 hat3)
          go_ret2
          rw [HR.out]
          refine ⟨_, rfl, ?_, HD1.out.below HB3.out, HT1.out.trans (Trn.of_below HB3.out (S := fun _ => False)) (fun _ _ h => h.elim)⟩
          show Own w3 w.heap.size _ v3 (readB (tick s) n)
          rw [HB.out]
          have := HO3.out
          rw [List.nil_append] at this
          exact this.lower (by have := HS1.out; omega)
        · have HB : Hid (readB (tick s) n = sectB s.B n) := by
            rw [Hid]
            unfold readB
            cases hl : lookC (tick s).C n with
            | none => rfl
            | some l =>
              obtain ⟨j, hj, h1, _⟩ := look_place hl
              exact absurd h1 (hno j hj)
          obtain ⟨A3, n3, c3, r3, b3, _, _, _⟩ : ∃ A3 n3 c3, (∀ W, (Instr.slice 50 (.slice (some ⟨ib, 0, none⟩) s.B.length ic) (some (.int .i64 ((n : Int) * 512))) (some (.int .i64 (((n : Int) + 1) * 512))) none).run Tryz.prog W = .ok (.slice A3 n3 c3) W) ∧ Byt (w1.alloc (.cells #[] 5)) (.slice A3 n3 c3) (sectB s.B n) ∧ True ∧ True ∧ True := by
            have h1 := hb.cut (k := 512 * n) (by show 512 * n ≤ s.B.length; omega)
            rw [if_neg (by have : (tick s).B.length = s.B.length := rfl; omega)] at h1
            have h2 := h1.upto (k := 512) (by show 512 ≤ s.B.length - 512 * n; omega)
            simp only [Option.map_some, plainAdd, Nat.zero_add] at h2
            refine ⟨some ⟨ib, 512 * n, none⟩, 512, ic - 512 * n, fun W => ?_, h2, trivial, trivial, trivial⟩
            rw [run_slice_lh W 50 _ s.B.length ic elemByte .i64 .i64 _ _ (by omega) (by omega) (by have : (tick s).B.length = s.B.length := rfl; omega), sizeByte]
            have e1 : ((n : Int) * 512).toNat = 512 * n := by omega
            have e2 : (((n : Int) + 1) * 512).toNat = 512 * n + 512 := by omega
            simp only [Result.andThen, sliced, e1, e2]
            rw [if_neg (by have : (tick s).B.length = s.B.length := rfl; omega)]
            simp [plainAdd]
          have HV := Lib.hid b3
          have HL := Lib.hid (sectB_len hn2)
          have d0' : (w1.alloc (.cells #[] 5)).cell? ⟨g, 0, none⟩ = some (.slice (some ⟨ib, 0, none⟩) s.B.length ic) := d0
          clear hb hvs hve hno b3 d0
          generalize sectB s.B n = l at *
          generalize s.B.length = nb at *
          go_wp2_with (at_builtin; refine wpList_app _ rfl (.tmp 31) (.tmp 41) _ rfl w1.heap.size 5 i0 _ Tryz.underlying50 hi0 hz0 hz1 hz2 rfl _ [] rfl HE.out _ l rfl HV.out (by have := HL.out; simp; omega) (by simp) ?_; intro v3 w3 hown3 hg3 hat3; have HB3 := Lib.hid (below_own (below_new w1 _) (by simp) HE.out hg3); have HO3 := Lib.hid hown3; clear hown3 hg3 hat3)
          go_ret2
          rw [HR.out]
          refine ⟨_, rfl, ?_, HD1.out.below HB3.out, HT1.out.trans (Trn.of_below HB3.out (S := fun _ => False)) (fun _ _ h => h.elim)⟩
          show Own w3 w.heap.size _ v3 (readB (tick s) n)
          rw [HB.out]
          have := HO3.out
          rw [List.nil_append] at this
          exact this.lower (by have := HS1.out; omega)
      · have HR : Hid (readR s (n : Int) = ([], 8, tick s)) := by rw [Hid]; unfold readR; rw [if_pos ⟨by omega, by omega⟩, hbl]; rfl
        rw [hbl] at HF
        clear hbl
        generalize secs s = sec at *
        go_enter Tryz.func56, Tryz.ntmps56
        go_wp2_with fail
        refine HS.out.mono ?_
        rintro e w1 ⟨rfl, rfl⟩
        go_wp2_with fail
        refine HF.out.mono ?_
        rintro e w1 ⟨rfl, hd1, ht1, hs1⟩
        have HD1 := Lib.hid hd1
        have HT1 := Lib.hid ht1
        clear hd1 ht1 hs1
        go_wp2_with fail
        go_ret2
        rw [HR.out]
        exact ⟨_, rfl, World.ownsRow_nil _ _ _ 1, HD1.out, HT1.out⟩
    · have HR : Hid (readR s (n : Int) = ([], 2, s)) := by rw [Hid]; unfold readR; rw [if_neg (by omega)]
      have h1' : ((secs s : Nat) : Int) ≤ (n : Int) := by omega
      clear h1
      generalize secs s = sec at *
      go_enter Tryz.func56, Tryz.ntmps56
      go_wp2_with fail
      refine HS.out.mono ?_
      rintro e w1 ⟨rfl, rfl⟩
      go_wp2_with fail
      go_ret2
      rw [HR.out]
      exact ⟨_, rfl, World.ownsRow_nil _ _ _ 1, H.out, Trn.refl _ _⟩
end Go.Proofs.YteeljcnmgfjcmaaGreatDoor

/-
  The document's disk (tallymanref04): Flush, Crash by their contracts. Conditions: none but that the disk lies there, and what is handed in apart from it.
-/
namespace Go.Proofs.YteeljcnmgfjcmaaGreatDoor
open Go.RowKit Go.Maps
set_option maxRecDepth 100000

def RDone (w : World) (S : Nat → Prop) (g : Nat) (r : Nat × St) (e : Ending) (w' : World) : Prop := e = .returned (.int .i64 ((r.1 : Nat) : Int)) ∧ Ref w' (more S w w') g r.2 ∧ Trn S w w'
theorem wp_copyB {o : Oper} {a : Act} {w : World} {K : Act → World → Prop} {Q : Exit → Act → World → Prop} (d s : Operand) (ho' : o.op = .call { callee := .builtin .copy, args := #[d, s], argTypes := #[50, 50] })
    (ib off n ic dLen dCap : Nat) (B l : List UInt8) (sv : Value) (hd : a.eval d = .slice (some ⟨ib, off, none⟩) dLen dCap) (hs' : a.eval s = sv)
    (ho : Own w 0 5 (.slice (some ⟨ib, 0, none⟩) n ic) B) (hs : Byt w sv l) (hle : l.length ≤ dLen) (hfit : off + dLen ≤ n)
    (h : ∀ w', Own w' 0 5 (.slice (some ⟨ib, 0, none⟩) n ic) (splice B off l) → Trn (fun k => k = ib) w w' → w'.heap.size = w.heap.size → K (a.put o.dst (goInt l.length)) w') : o.wp Tryz.prog a w K Q := by
  obtain ⟨w', hrun, g1, g2, g3⟩ := run_copyB (w := w) o.type ib off n ic dLen dCap B l sv ho hs hle hfit
  unfold Oper.wp
  simp [execOp, ho', resolve, invoke, builtin, hd, hs', hrun, Result.andThen]
  exact h w' g1 g2 g3
/-- Behind the loop: order and cache are none. -/
theorem rsettled {w wr : World} {S : Nat → Prop} {g ib ic : Nat} {vn vc : Value} {vs : List Value} {s : St} {f : Nat → Nat} (ha : RefAt w g s ib ic vn vc vs) (F : RFoot S w g ib vn vc vs) (ok : OkSt s)
    (ho : Own wr 0 5 (.slice (some ⟨ib, 0, none⟩) s.B.length ic) (settleTo f s.B s.C s.C.length)) (ht : Trn (fun x => x = ib) w wr) :
    RefAt ((wr.setCell ⟨g, 1, none⟩ (.slice none 0 0)).setCell ⟨g, 2, none⟩ (.slice none 0 0)) g (settleS f s) ib ic (.slice none 0 0) (.slice none 0 0) [] := by
  have hl : (settleS f s).B.length = s.B.length := settleS_len f ok
  refine ⟨?_, ?_, World.ownsRow_nil _ _ _ _, World.ownsRow_nil _ _ _ _, fun j hj => absurd hj (by show ¬ j < 0; omega)⟩
  · rw [hl]
    have h1 := (ht.block g (F.lt g F.g) (fun e => ha.ib_g e.symm)).trans ha.obj
    simp [World.setCell, Array.getElem?_modify, h1]
    rfl
  · rw [hl]
    refine ownsRow_same ho (fun k hk => (heap_cell_other ?_).trans (heap_cell_other ?_)) <;>
    · simp [Value.ownBlock] at hk
      exact hk ▸ ha.ib_g
/-- What a round of the loop looks at. -/
theorem round_facts {w wr : World} {S : Nat → Prop} {g ib ic k : Nat} {vn vc : Value} {vs : List Value} {s : St} (ha : RefAt w g s ib ic vn vc vs) (F : RFoot S w g ib vn vc vs) (ok : OkSt s) (ht : Trn (fun x => x = ib) w wr) (hk : k < s.C.length) :
    ∃ A1 n1 c1 A2 n2 c2 b1 o1 b2 o2 Av nv cv, vn = .slice A1 n1 c1 ∧ vc = .slice A2 n2 c2 ∧ A1 = some ⟨b1, o1, none⟩ ∧ A2 = some ⟨b2, o2, none⟩ ∧ (k < n1 ∧ n1 = s.C.length) ∧ k < n2 ∧
      wr.cell? ⟨g, 0, none⟩ = some (.slice (some ⟨ib, 0, none⟩) s.B.length ic) ∧ wr.cell? ⟨g, 1, none⟩ = some vn ∧ wr.cell? ⟨g, 2, none⟩ = some vc ∧
      wr.cell? ⟨b1, o1 + k, none⟩ = some (.int .i64 ((s.C[k].1 : Nat) : Int)) ∧ wr.cell? ⟨b2, o2 + k, none⟩ = some (.slice Av nv cv) ∧ Byt wr (.slice Av nv cv) s.C[k].2 ∧ nv = 512 ∧ nv ≤ cv ∧ cv ≤ 9223372036854775807 := by
  have hb : ∀ x, S x → x ≠ ib → wr.heap[x]? = w.heap[x]? := fun x hx he => ht.block x (F.lt x hx) he
  have hobj := (hb g F.g (fun e => ha.ib_g e.symm)).trans ha.obj
  have hord := ownsRow_same (w' := wr) ha.ord (fun x hx => hb x (F.n x hx) (ha.n_g hx).2)
  have hrows := ownsRow_same (w' := wr) ha.rows (fun x hx => hb x (F.c x hx) (ha.c_g hx).2)
  have hlen := ha.len
  rw [← hlen] at hrows
  have hr2 : Rowz wr vc vs := OwnR.rowz hrows
  obtain ⟨A1, n1, c1, rfl, N1, _, _⟩ := (ints_rowz hord).form
  obtain ⟨A2, n2, c2, rfl, N2, _, _⟩ := hr2.form
  obtain ⟨b1, o1, rfl, _, h1⟩ := (ints_rowz hord).at (k := k) (by rw [inz_len, keysC_len]; exact hk)
  obtain ⟨b2, o2, rfl, _, h2⟩ := hr2.at (k := k) (by omega)
  have hkv : k < vs.length := by omega
  have hown := ownsRow_same (w' := wr) (ha.each k hk hkv).1 (fun x hx => hb x (F.r _ (List.getElem_mem hkv) x hx) (fun e => (ha.each k hk hkv).2 (e ▸ hx)))
  have hby : Byt wr vs[k] s.C[k].2 := Own.byt hown
  obtain ⟨Av, nv, cv, ev, Nv, hv1, hv2⟩ := hby.form
  obtain ⟨q0, q1, q2, _, _, _, _⟩ := robj_cells hobj
  have hn1 : n1 = s.C.length := by have := N1.out; rw [inz_len, keysC_len] at this; exact this
  have e1 := h1 k (by rw [inz_len, keysC_len]; exact hk)
  have e2 := h2 k hkv
  refine ⟨_, n1, c1, _, n2, c2, b1, o1, b2, o2, Av, nv, cv, rfl, rfl, rfl, rfl, ⟨by omega, hn1⟩, by have := N2.out; omega, q0, q1, q2, ?_, by rw [e2, ev], ev ▸ hby, Nv.out.trans (ok.rows _ (List.getElem_mem hk)).2, hv1, hv2⟩
  rw [e1]
  simp [inz, keysC]
theorem dstRun {n ic ib x : Nat} (h1 : 512 * (x + 1) ≤ n) (h2 : n ≤ ic) : ∀ W, (Instr.slice 50 (.slice (some ⟨ib, 0, none⟩) n ic) (some (.int .i64 ((x : Int) * 512))) none none).run Tryz.prog W = .ok (.slice (some ⟨ib, 512 * x, none⟩) (n - 512 * x) (ic - 512 * x)) W := by
  intro W
  rw [run_slice_l W 50 _ n ic elemByte .i64 ((x : Int) * 512) (by omega) (by omega), sizeByte]
  have e1 : ((x : Int) * 512).toNat = 512 * x := by omega
  simp only [Result.andThen, sliced, e1]
  rw [if_neg (by omega)]
  simp [plainAdd]
theorem wrapMul {x : Nat} (h : x ≤ 32768) : IntKind.i64.wrap ((x : Int) * 512) = (x : Int) * 512 := by
  rw [IntKind.wrap_i64]; omega

theorem Rowz.trnN {w w' : World} {S : Nat → Prop} {v : Value} {vs : List Value} (h : Rowz w v vs) (ht : Trn S w w') (hn : vs ≠ [] → ∀ k, v.ownBlock = some k → ¬ S k) : Rowz w' v vs := by
  by_cases h0 : vs = []
  · subst h0
    obtain ⟨A, c, rfl, h1, h2, h3⟩ := h
    exact ⟨A, c, rfl, h1, h2, .inl rfl⟩
  · exact h.trn ht (hn h0)
set_option maxRecDepth 100000 in
set_option maxHeartbeats 40000000 in
theorem rcrash_is (w : World) (S : Nat → Prop) (g : Nat) (s : St) (vk : Value) (keep : List Bool) (torn bytes : Int) (h : Ref w S g s) (hv : Rowz w vk (keep.map Value.bool)) (hn : keep ≠ [] → ∀ k, vk.ownBlock = some k → ¬ S k) :
    Calls Tryz.prog 16 #[.pointer (some ⟨g, 0, none⟩), .agg (crashV vk torn bytes)] w (RDone w S g (0, crashS s keep torn bytes)) := by
  have HLT := Lib.hid h.lt
  obtain ⟨Ak, mk, ck, rfl, Nk, hkc, hkm⟩ := hv.form
  rw [List.length_map] at Nk
  obtain ⟨w1, hw1⟩ : ∃ w1, w1 = w.alloc (.cells (crashV (.slice Ak mk ck) torn bytes) 25) := ⟨_, rfl⟩
  have HB1 : Hid (Below w.heap.size w w1) := hw1 ▸ below_new w _
  have HBX : Hid (w1.heap[w.heap.size]? = some (.cells (crashV (.slice Ak mk ck) torn bytes) 25)) := hw1 ▸ heap_alloc_new w _
  have HW1 := Lib.hid hw1
  have hd1 := h.below HB1.out
  have HKV := Lib.hid (hv.below HB1.out)
  have HNS := Lib.hid hn
  clear h hv hw1 hn
  obtain ⟨ib, ic, vn, vc, vs, ha, F, ok⟩ := hd1
  have HIB : Hid (ib < w.heap.size) := HLT.out ib F.ib
  have HNI : Hid (keep.map Value.bool ≠ [] → ∀ k, (Value.slice Ak mk ck).ownBlock = some k → k ≠ ib) := fun hne k hk e => HNS.out (fun h0 => hne (by rw [h0]; rfl)) k hk (e ▸ F.ib)
  have HA := Lib.hid ha
  have HFT := Lib.hid F
  have HO := Lib.hid ok
  have hcn := ok.cnt
  have hno : ∃ A1 n1 c1, vn = .slice A1 n1 c1 ∧ Hid (n1 = s.C.length) ∧ n1 ≤ c1 ∧ c1 ≤ 9223372036854775807 := by
    obtain ⟨A1, n1, c1, e, N1, h1, h2⟩ := (ints_rowz ha.ord).form
    exact ⟨A1, n1, c1, e, by have := N1.out; rw [inz_len, keysC_len] at this; exact this, h1, h2⟩
  obtain ⟨A1, n1, c1, rfl, NN, hnc1, hcm1⟩ := hno
  have hic : s.B.length ≤ ic ∧ ic ≤ 9223372036854775807 := by
    obtain ⟨_, c', e, h3, h4, _⟩ := Own.byt ha.img
    injection e with _ _ e3
    subst e3
    unfold maxLen at h4
    exact ⟨h3, by omega⟩
  clear ha F ok
  go_enter Tryz.func16, Tryz.ntmps16
  unfold crashV
  go_wp2_with fail
  rw [show w.alloc (.cells #[.slice Ak mk ck, .int .i64 torn, .int .i64 bytes] 25) = w1 from HW1.out.symm]
  clear HW1
  go_loopw [5] (fun i wr => SettleRel w1 ib ic s.B.length (keptN keep torn bytes) s.B s.C i wr) (fun i _ => n1 - (intOf i).toNat)
  case atStart => exact ⟨0, by omega, rfl, HA.out.img, Trn.refl _ _⟩
  case round =>
    obtain ⟨k, hk, rfl, hown, htrn⟩ := hrel
    have HW := Lib.hid hown
    have HT := Lib.hid htrn
    have hbx : wr.heap[w.heap.size]? = some (.cells (crashV (.slice Ak mk ck) torn bytes) 25) := (htrn.block w.heap.size (Array.getElem?_eq_some_iff.1 HBX.out).1 (fun e => by have := HIB.out; omega)).trans HBX.out
    have q0 : wr.cell? ⟨w.heap.size, 0, none⟩ = some (.slice Ak mk ck) := by rw [cell_of_row _ _ _ _ _ _ hbx]; rfl
    have q1 : wr.cell? ⟨w.heap.size, 1, none⟩ = some (.int .i64 torn) := by rw [cell_of_row _ _ _ _ _ _ hbx]; rfl
    have q2 : wr.cell? ⟨w.heap.size, 2, none⟩ = some (.int .i64 bytes) := by rw [cell_of_row _ _ _ _ _ _ hbx]; rfl
    have HKR := Lib.hid (HKV.out.trnN htrn HNI.out)
    clear hown htrn hbx
    by_cases hlt : k < s.C.length
    · obtain ⟨A1', n1', c1', A2, n2, c2, b1, o1, b2, o2, Av, nv, cv, hvn, rfl, rfl, rfl, hkn1, hkn2, d0, d1, d2, e1, e2, hby, hnv, hcv1, hcv2⟩ := round_facts HA.out HFT.out HO.out HT.out hlt
      injection hvn with hv1 hv2 hv3
      subst hv1 hv2 hv3
      have hrow := HO.out.rows _ (List.getElem_mem hlt)
      have hst : settleTo (keptN keep torn bytes) s.B s.C (k + 1) = splice (settleTo (keptN keep torn bytes) s.B s.C k) (512 * s.C[k].1) (s.C[k].2.take (keptN keep torn bytes k)) := by
        show splice _ _ _ = _
        rw [getD_at s.C k hlt]
      have hwh := HO.out.whole
      have hfew := HO.out.few
      have hkn : (k : Int) < (n1 : Int) := by omega
      have hkn' : (k : Int) < (n2 : Int) := by omega
      generalize s.C[k].1 = x at *
      generalize s.C[k].2 = l at *
      have HXE : Hid (512 * (x + 1) ≤ s.B.length) := by rw [Hid]; have := hrow.1; omega
      have HLL := Lib.hid hrow.2
      have HST := Lib.hid hst
      have HR1 := Lib.hid (dstRun (ib := ib) HXE.out hic.1)
      have HWR := Lib.hid (wrapMul (x := x) (by have := hrow.1; omega))
      have HD0 := Lib.hid (show wr.drew.cell? _ = _ from d0)
      have HD1 := Lib.hid (show wr.drew.cell? _ = _ from d1)
      have HD2 := Lib.hid (show wr.drew.cell? _ = _ from d2)
      have HCN := Lib.hid (show wr.drew.cell? _ = _ from e1)
      have HCV := Lib.hid (show wr.drew.cell? _ = _ from e2)
      have HBY := Lib.hid hby
      have HWD := Lib.hid (show Own wr.drew 0 5 _ _ from HW.out)
      have HTD := Lib.hid (show Trn (fun x => x = ib) w1 wr.drew from HT.out.drew)
      have hmx := HO.out.short
      subst hnv
      clear e1 e2 hby hst hrow hwh hfew HW HT d0 d2
      generalize s.B.length = nb at *
      by_cases hkl : k < keep.length
      · obtain ⟨bk, ok, rfl, _, hck⟩ := HKR.out.at (k := k) (by rw [List.length_map]; exact hkl)
        have hkk := hck k (by rw [List.length_map]; exact hkl)
        rw [List.getElem_map] at hkk
        have hkm' : (k : Int) < (mk : Int) := by have := Nk.out; omega
        have HKG0 : Hid (keep.getD k false = keep[k]) := getD_bool hkl
        generalize keep[k] = bb at *
        clear hck
        cases bb
        · have HKG : Hid (keep.getD k false = false) := HKG0.out
          by_cases ht : (k : Int) = torn ∧ 0 ≤ bytes ∧ bytes ≤ 512
          · obtain ⟨h1, h2, h3⟩ := ht
            obtain ⟨nbt, rfl⟩ := Int.eq_ofNat_of_zero_le h2
            have h1' : ((k : Int) == torn) = true := by simp [h1]
            have HFK : Hid (keptN keep torn (nbt : Int) k = nbt) := by rw [Hid]; unfold keptN; rw [if_pos ⟨h1, h2, h3⟩]; rfl
            clear h1
            obtain ⟨A3, n3, c3, r3, b3, _, _, _⟩ := HBY.out.uptorun 50 elemByte sizeByte nbt (by omega) .i64
            have HR2 : Hid (∀ W, (Instr.slice 50 (.slice Av 512 cv) none (some (.int .i64 (nbt : Int))) none).run Tryz.prog W = .ok (.slice A3 n3 c3) W) := r3
            have HSR := Lib.hid (show Byt wr.drew _ _ from b3)
            have HLT2 : Hid ((l.take nbt).length ≤ 512) := by rw [Hid, List.length_take]; omega
            rw [HFK.out] at HST
            clear r3 b3 HFK
            go_wp2_with fail
            refine wp_region_T (R := fun x y => x = y) (by kernel_rfl) (fun _ => rfl) (fun h k => h.trans k) (by kernel_rfl) 22 rfl (by kernel_rfl) (by kernel_rfl) (fun d v c a w h => by cases d <;> exact h)
              [(0, false), (1, false), (2, false), (3, false), (4, false), (5, false), (6, false), (7, false), (8, false), (9, false), (10, false), (11, false), (12, false), (13, false), (14, false), (15, false), (16, false), (17, false), (18, false), (19, false), (20, false), (21, false)] rfl (by kernel_rfl) ?_
            simp only [sel, List.getElem?_toArray, List.getElem?_cons_succ, List.getElem?_cons_zero]
            generalize wr.drew = wd at *
            iterate 3 (refine schT_take ?_ rfl ?_ ?_; rotate_left; (focus (intro u hu; go_simp <;> rfl)); simp only [Act.put, List.setIfInBounds_toArray, List.set_cons_zero, List.set_cons_succ])
            (refine schT_take ?_ rfl ?_ ?_; rotate_left; (focus (intro u hu; have c0 := hu ▸ HD0.out; clear hu; go_simp <;> rfl)); simp only [Act.put, List.setIfInBounds_toArray, List.set_cons_zero, List.set_cons_succ])
            iterate 3 (refine schT_take ?_ rfl ?_ ?_; rotate_left; (focus (intro u hu; go_simp <;> rfl)); simp only [Act.put, List.setIfInBounds_toArray, List.set_cons_zero, List.set_cons_succ])
            (refine schT_take ?_ rfl ?_ ?_; rotate_left; (focus (intro u hu; have c0 := hu ▸ HD1.out; clear hu; go_simp <;> rfl)); simp only [Act.put, List.setIfInBounds_toArray, List.set_cons_zero, List.set_cons_succ])
            iterate 2 (refine schT_take ?_ rfl ?_ ?_; rotate_left; (focus (intro u hu; go_simp <;> rfl)); simp only [Act.put, List.setIfInBounds_toArray, List.set_cons_zero, List.set_cons_succ])
            (refine schT_take ?_ rfl ?_ ?_; rotate_left; (focus (intro u hu; have c0 := hu ▸ HCN.out; clear hu; go_simp <;> rfl)); simp only [Act.put, List.setIfInBounds_toArray, List.set_cons_zero, List.set_cons_succ])
            (refine schT_take ?_ rfl ?_ ?_; rotate_left; (focus (intro u hu; have hw := HWR.out; clear hu; go_simp <;> rfl)); simp only [Act.put, List.setIfInBounds_toArray, List.set_cons_zero, List.set_cons_succ])
            (refine schT_take ?_ rfl ?_ ?_; rotate_left; (focus (intro u hu; have hr := HR1.out; clear hu; go_simp <;> rfl)); simp only [Act.put, List.setIfInBounds_toArray, List.set_cons_zero, List.set_cons_succ])
            iterate 3 (refine schT_take ?_ rfl ?_ ?_; rotate_left; (focus (intro u hu; go_simp <;> rfl)); simp only [Act.put, List.setIfInBounds_toArray, List.set_cons_zero, List.set_cons_succ])
            (refine schT_take ?_ rfl ?_ ?_; rotate_left; (focus (intro u hu; have c0 := hu ▸ HD2.out; clear hu; go_simp <;> rfl)); simp only [Act.put, List.setIfInBounds_toArray, List.set_cons_zero, List.set_cons_succ])
            iterate 2 (refine schT_take ?_ rfl ?_ ?_; rotate_left; (focus (intro u hu; go_simp <;> rfl)); simp only [Act.put, List.setIfInBounds_toArray, List.set_cons_zero, List.set_cons_succ])
            (refine schT_take ?_ rfl ?_ ?_; rotate_left; (focus (intro u hu; have c0 := hu ▸ HCV.out; clear hu; go_simp <;> rfl)); simp only [Act.put, List.setIfInBounds_toArray, List.set_cons_zero, List.set_cons_succ])
            (refine schT_take ?_ rfl ?_ ?_; rotate_left; (focus (intro u hu; go_simp <;> rfl)); simp only [Act.put, List.setIfInBounds_toArray, List.set_cons_zero, List.set_cons_succ])
            (refine schT_take ?_ rfl ?_ ?_; rotate_left; (focus (intro u hu; have hr := HR2.out; clear hu; go_simp <;> rfl)); simp only [Act.put, List.setIfInBounds_toArray, List.set_cons_zero, List.set_cons_succ])
            refine schT_nil ?_
            refine schT_last rfl rfl ?_
            refine wp_copyB (.tmp 56) (.tmp 65) rfl ib (512 * x) nb ic (nb - 512 * x) (ic - 512 * x) _ (l.take nbt) _ rfl rfl HWD.out HSR.out (by have := HXE.out; have := HLT2.out; omega) (by have := HXE.out; omega) ?_
            intro w3 o3 t3 s3
            go_wp2_with fail
            go_roundw
            case rel => exact ⟨k + 1, by omega, by go_num, by rw [HST.out]; exact o3, HTD.out.trans t3 (fun _ _ h => h)⟩
            case measure => simp [intOf]; omega
          · have HFK : Hid (keptN keep torn bytes k = 0) := by rw [Hid]; unfold keptN; rw [if_neg ht, HKG.out]; rfl
            by_cases e1 : (k : Int) = torn
            · have h1' : ((k : Int) == torn) = true := by simp [e1]
              by_cases e2 : 0 ≤ bytes
              · have e3 : ¬ bytes ≤ 512 := fun h => ht ⟨e1, e2, h⟩
                clear ht e1
                obtain ⟨A3, n3, c3, r3, b3, _, _, _⟩ := HBY.out.uptorun 50 elemByte sizeByte 0 (by omega) .i64
                have HR2 : Hid (∀ W, (Instr.slice 50 (.slice Av 512 cv) none (some (.int .i64 0)) none).run Tryz.prog W = .ok (.slice A3 n3 c3) W) := r3
                have HSR := Lib.hid (show Byt wr.drew _ _ from b3)
                have HLT2 : Hid ((l.take 0).length ≤ 512) := by rw [Hid, List.length_take]; omega
                rw [HFK.out] at HST
                clear r3 b3 HFK
                go_wp2_with fail
                refine wp_region_T (R := fun x y => x = y) (by kernel_rfl) (fun _ => rfl) (fun h k => h.trans k) (by kernel_rfl) 22 rfl (by kernel_rfl) (by kernel_rfl) (fun d v c a w h => by cases d <;> exact h)
                  [(0, false), (1, false), (2, false), (3, false), (4, false), (5, false), (6, false), (7, false), (8, false), (9, false), (10, false), (11, false), (12, false), (13, false), (14, false), (15, false), (16, false), (17, false), (18, false), (19, false), (20, false), (21, false)] rfl (by kernel_rfl) ?_
                simp only [sel, List.getElem?_toArray, List.getElem?_cons_succ, List.getElem?_cons_zero]
                generalize wr.drew = wd at *
                iterate 3 (refine schT_take ?_ rfl ?_ ?_; rotate_left; (focus (intro u hu; go_simp <;> rfl)); simp only [Act.put, List.setIfInBounds_toArray, List.set_cons_zero, List.set_cons_succ])
                (refine schT_take ?_ rfl ?_ ?_; rotate_left; (focus (intro u hu; have c0 := hu ▸ HD0.out; clear hu; go_simp <;> rfl)); simp only [Act.put, List.setIfInBounds_toArray, List.set_cons_zero, List.set_cons_succ])
                iterate 3 (refine schT_take ?_ rfl ?_ ?_; rotate_left; (focus (intro u hu; go_simp <;> rfl)); simp only [Act.put, List.setIfInBounds_toArray, List.set_cons_zero, List.set_cons_succ])
                (refine schT_take ?_ rfl ?_ ?_; rotate_left; (focus (intro u hu; have c0 := hu ▸ HD1.out; clear hu; go_simp <;> rfl)); simp only [Act.put, List.setIfInBounds_toArray, List.set_cons_zero, List.set_cons_succ])
                iterate 2 (refine schT_take ?_ rfl ?_ ?_; rotate_left; (focus (intro u hu; go_simp <;> rfl)); simp only [Act.put, List.setIfInBounds_toArray, List.set_cons_zero, List.set_cons_succ])
                (refine schT_take ?_ rfl ?_ ?_; rotate_left; (focus (intro u hu; have c0 := hu ▸ HCN.out; clear hu; go_simp <;> rfl)); simp only [Act.put, List.setIfInBounds_toArray, List.set_cons_zero, List.set_cons_succ])
                (refine schT_take ?_ rfl ?_ ?_; rotate_left; (focus (intro u hu; have hw := HWR.out; clear hu; go_simp <;> rfl)); simp only [Act.put, List.setIfInBounds_toArray, List.set_cons_zero, List.set_cons_succ])
                (refine schT_take ?_ rfl ?_ ?_; rotate_left; (focus (intro u hu; have hr := HR1.out; clear hu; go_simp <;> rfl)); simp only [Act.put, List.setIfInBounds_toArray, List.set_cons_zero, List.set_cons_succ])
                iterate 3 (refine schT_take ?_ rfl ?_ ?_; rotate_left; (focus (intro u hu; go_simp <;> rfl)); simp only [Act.put, List.setIfInBounds_toArray, List.set_cons_zero, List.set_cons_succ])
                (refine schT_take ?_ rfl ?_ ?_; rotate_left; (focus (intro u hu; have c0 := hu ▸ HD2.out; clear hu; go_simp <;> rfl)); simp only [Act.put, List.setIfInBounds_toArray, List.set_cons_zero, List.set_cons_succ])
                iterate 2 (refine schT_take ?_ rfl ?_ ?_; rotate_left; (focus (intro u hu; go_simp <;> rfl)); simp only [Act.put, List.setIfInBounds_toArray, List.set_cons_zero, List.set_cons_succ])
                (refine schT_take ?_ rfl ?_ ?_; rotate_left; (focus (intro u hu; have c0 := hu ▸ HCV.out; clear hu; go_simp <;> rfl)); simp only [Act.put, List.setIfInBounds_toArray, List.set_cons_zero, List.set_cons_succ])
                (refine schT_take ?_ rfl ?_ ?_; rotate_left; (focus (intro u hu; go_simp <;> rfl)); simp only [Act.put, List.setIfInBounds_toArray, List.set_cons_zero, List.set_cons_succ])
                (refine schT_take ?_ rfl ?_ ?_; rotate_left; (focus (intro u hu; have hr := HR2.out; clear hu; go_simp <;> rfl)); simp only [Act.put, List.setIfInBounds_toArray, List.set_cons_zero, List.set_cons_succ])
                refine schT_nil ?_
                refine schT_last rfl rfl ?_
                refine wp_copyB (.tmp 56) (.tmp 65) rfl ib (512 * x) nb ic (nb - 512 * x) (ic - 512 * x) _ (l.take 0) _ rfl rfl HWD.out HSR.out (by have := HXE.out; have := HLT2.out; omega) (by have := HXE.out; omega) ?_
                intro w3 o3 t3 s3
                go_wp2_with fail
                go_roundw
                case rel => exact ⟨k + 1, by omega, by go_num, by rw [HST.out]; exact o3, HTD.out.trans t3 (fun _ _ h => h)⟩
                case measure => simp [intOf]; omega
              · clear ht e1
                obtain ⟨A3, n3, c3, r3, b3, _, _, _⟩ := HBY.out.uptorun 50 elemByte sizeByte 0 (by omega) .i64
                have HR2 : Hid (∀ W, (Instr.slice 50 (.slice Av 512 cv) none (some (.int .i64 0)) none).run Tryz.prog W = .ok (.slice A3 n3 c3) W) := r3
                have HSR := Lib.hid (show Byt wr.drew _ _ from b3)
                have HLT2 : Hid ((l.take 0).length ≤ 512) := by rw [Hid, List.length_take]; omega
                rw [HFK.out] at HST
                clear r3 b3 HFK
                go_wp2_with fail
                refine wp_region_T (R := fun x y => x = y) (by kernel_rfl) (fun _ => rfl) (fun h k => h.trans k) (by kernel_rfl) 22 rfl (by kernel_rfl) (by kernel_rfl) (fun d v c a w h => by cases d <;> exact h)
                  [(0, false), (1, false), (2, false), (3, false), (4, false), (5, false), (6, false), (7, false), (8, false), (9, false), (10, false), (11, false), (12, false), (13, false), (14, false), (15, false), (16, false), (17, false), (18, false), (19, false), (20, false), (21, false)] rfl (by kernel_rfl) ?_
                simp only [sel, List.getElem?_toArray, List.getElem?_cons_succ, List.getElem?_cons_zero]
                generalize wr.drew = wd at *
                iterate 3 (refine schT_take ?_ rfl ?_ ?_; rotate_left; (focus (intro u hu; go_simp <;> rfl)); simp only [Act.put, List.setIfInBounds_toArray, List.set_cons_zero, List.set_cons_succ])
                (refine schT_take ?_ rfl ?_ ?_; rotate_left; (focus (intro u hu; have c0 := hu ▸ HD0.out; clear hu; go_simp <;> rfl)); simp only [Act.put, List.setIfInBounds_toArray, List.set_cons_zero, List.set_cons_succ])
                iterate 3 (refine schT_take ?_ rfl ?_ ?_; rotate_left; (focus (intro u hu; go_simp <;> rfl)); simp only [Act.put, List.setIfInBounds_toArray, List.set_cons_zero, List.set_cons_succ])
                (refine schT_take ?_ rfl ?_ ?_; rotate_left; (focus (intro u hu; have c0 := hu ▸ HD1.out; clear hu; go_simp <;> rfl)); simp only [Act.put, List.setIfInBounds_toArray, List.set_cons_zero, List.set_cons_succ])
                iterate 2 (refine schT_take ?_ rfl ?_ ?_; rotate_left; (focus (intro u hu; go_simp <;> rfl)); simp only [Act.put, List.setIfInBounds_toArray, List.set_cons_zero, List.set_cons_succ])
                (refine schT_take ?_ rfl ?_ ?_; rotate_left; (focus (intro u hu; have c0 := hu ▸ HCN.out; clear hu; go_simp <;> rfl)); simp only [Act.put, List.setIfInBounds_toArray, List.set_cons_zero, List.set_cons_succ])
                (refine schT_take ?_ rfl ?_ ?_; rotate_left; (focus (intro u hu; have hw := HWR.out; clear hu; go_simp <;> rfl)); simp only [Act.put, List.setIfInBounds_toArray, List.set_cons_zero, List.set_cons_succ])
                (refine schT_take ?_ rfl ?_ ?_; rotate_left; (focus (intro u hu; have hr := HR1.out; clear hu; go_simp <;> rfl)); simp only [Act.put, List.setIfInBounds_toArray, List.set_cons_zero, List.set_cons_succ])
                iterate 3 (refine schT_take ?_ rfl ?_ ?_; rotate_left; (focus (intro u hu; go_simp <;> rfl)); simp only [Act.put, List.setIfInBounds_toArray, List.set_cons_zero, List.set_cons_succ])
                (refine schT_take ?_ rfl ?_ ?_; rotate_left; (focus (intro u hu; have c0 := hu ▸ HD2.out; clear hu; go_simp <;> rfl)); simp only [Act.put, List.setIfInBounds_toArray, List.set_cons_zero, List.set_cons_succ])
                iterate 2 (refine schT_take ?_ rfl ?_ ?_; rotate_left; (focus (intro u hu; go_simp <;> rfl)); simp only [Act.put, List.setIfInBounds_toArray, List.set_cons_zero, List.set_cons_succ])
                (refine schT_take ?_ rfl ?_ ?_; rotate_left; (focus (intro u hu; have c0 := hu ▸ HCV.out; clear hu; go_simp <;> rfl)); simp only [Act.put, List.setIfInBounds_toArray, List.set_cons_zero, List.set_cons_succ])
                (refine schT_take ?_ rfl ?_ ?_; rotate_left; (focus (intro u hu; go_simp <;> rfl)); simp only [Act.put, List.setIfInBounds_toArray, List.set_cons_zero, List.set_cons_succ])
                (refine schT_take ?_ rfl ?_ ?_; rotate_left; (focus (intro u hu; have hr := HR2.out; clear hu; go_simp <;> rfl)); simp only [Act.put, List.setIfInBounds_toArray, List.set_cons_zero, List.set_cons_succ])
                refine schT_nil ?_
                refine schT_last rfl rfl ?_
                refine wp_copyB (.tmp 56) (.tmp 65) rfl ib (512 * x) nb ic (nb - 512 * x) (ic - 512 * x) _ (l.take 0) _ rfl rfl HWD.out HSR.out (by have := HXE.out; have := HLT2.out; omega) (by have := HXE.out; omega) ?_
                intro w3 o3 t3 s3
                go_wp2_with fail
                go_roundw
                case rel => exact ⟨k + 1, by omega, by go_num, by rw [HST.out]; exact o3, HTD.out.trans t3 (fun _ _ h => h)⟩
                case measure => simp [intOf]; omega
            · have h1' : ((k : Int) == torn) = false := by simp [e1]
              clear ht e1
              obtain ⟨A3, n3, c3, r3, b3, _, _, _⟩ := HBY.out.uptorun 50 elemByte sizeByte 0 (by omega) .i64
              have HR2 : Hid (∀ W, (Instr.slice 50 (.slice Av 512 cv) none (some (.int .i64 0)) none).run Tryz.prog W = .ok (.slice A3 n3 c3) W) := r3
              have HSR := Lib.hid (show Byt wr.drew _ _ from b3)
              have HLT2 : Hid ((l.take 0).length ≤ 512) := by rw [Hid, List.length_take]; omega
              rw [HFK.out] at HST
              clear r3 b3 HFK
              go_wp2_with fail
              refine wp_region_T (R := fun x y => x = y) (by kernel_rfl) (fun _ => rfl) (fun h k => h.trans k) (by kernel_rfl) 22 rfl (by kernel_rfl) (by kernel_rfl) (fun d v c a w h => by cases d <;> exact h)
                [(0, false), (1, false), (2, false), (3, false), (4, false), (5, false), (6, false), (7, false), (8, false), (9, false), (10, false), (11, false), (12, false), (13, false), (14, false), (15, false), (16, false), (17, false), (18, false), (19, false), (20, false), (21, false)] rfl (by kernel_rfl) ?_
              simp only [sel, List.getElem?_toArray, List.getElem?_cons_succ, List.getElem?_cons_zero]
              generalize wr.drew = wd at *
              iterate 3 (refine schT_take ?_ rfl ?_ ?_; rotate_left; (focus (intro u hu; go_simp <;> rfl)); simp only [Act.put, List.setIfInBounds_toArray, List.set_cons_zero, List.set_cons_succ])
              (refine schT_take ?_ rfl ?_ ?_; rotate_left; (focus (intro u hu; have c0 := hu ▸ HD0.out; clear hu; go_simp <;> rfl)); simp only [Act.put, List.setIfInBounds_toArray, List.set_cons_zero, List.set_cons_succ])
              iterate 3 (refine schT_take ?_ rfl ?_ ?_; rotate_left; (focus (intro u hu; go_simp <;> rfl)); simp only [Act.put, List.setIfInBounds_toArray, List.set_cons_zero, List.set_cons_succ])
              (refine schT_take ?_ rfl ?_ ?_; rotate_left; (focus (intro u hu; have c0 := hu ▸ HD1.out; clear hu; go_simp <;> rfl)); simp only [Act.put, List.setIfInBounds_toArray, List.set_cons_zero, List.set_cons_succ])
              iterate 2 (refine schT_take ?_ rfl ?_ ?_; rotate_left; (focus (intro u hu; go_simp <;> rfl)); simp only [Act.put, List.setIfInBounds_toArray, List.set_cons_zero, List.set_cons_succ])
              (refine schT_take ?_ rfl ?_ ?_; rotate_left; (focus (intro u hu; have c0 := hu ▸ HCN.out; clear hu; go_simp <;> rfl)); simp only [Act.put, List.setIfInBounds_toArray, List.set_cons_zero, List.set_cons_succ])
              (refine schT_take ?_ rfl ?_ ?_; rotate_left; (focus (intro u hu; have hw := HWR.out; clear hu; go_simp <;> rfl)); simp only [Act.put, List.setIfInBounds_toArray, List.set_cons_zero, List.set_cons_succ])
              (refine schT_take ?_ rfl ?_ ?_; rotate_left; (focus (intro u hu; have hr := HR1.out; clear hu; go_simp <;> rfl)); simp only [Act.put, List.setIfInBounds_toArray, List.set_cons_zero, List.set_cons_succ])
              iterate 3 (refine schT_take ?_ rfl ?_ ?_; rotate_left; (focus (intro u hu; go_simp <;> rfl)); simp only [Act.put, List.setIfInBounds_toArray, List.set_cons_zero, List.set_cons_succ])
              (refine schT_take ?_ rfl ?_ ?_; rotate_left; (focus (intro u hu; have c0 := hu ▸ HD2.out; clear hu; go_simp <;> rfl)); simp only [Act.put, List.setIfInBounds_toArray, List.set_cons_zero, List.set_cons_succ])
              iterate 2 (refine schT_take ?_ rfl ?_ ?_; rotate_left; (focus (intro u hu; go_simp <;> rfl)); simp only [Act.put, List.setIfInBounds_toArray, List.set_cons_zero, List.set_cons_succ])
              (refine schT_take ?_ rfl ?_ ?_; rotate_left; (focus (intro u hu; have c0 := hu ▸ HCV.out; clear hu; go_simp <;> rfl)); simp only [Act.put, List.setIfInBounds_toArray, List.set_cons_zero, List.set_cons_succ])
              (refine schT_take ?_ rfl ?_ ?_; rotate_left; (focus (intro u hu; go_simp <;> rfl)); simp only [Act.put, List.setIfInBounds_toArray, List.set_cons_zero, List.set_cons_succ])
              (refine schT_take ?_ rfl ?_ ?_; rotate_left; (focus (intro u hu; have hr := HR2.out; clear hu; go_simp <;> rfl)); simp only [Act.put, List.setIfInBounds_toArray, List.set_cons_zero, List.set_cons_succ])
              refine schT_nil ?_
              refine schT_last rfl rfl ?_
              refine wp_copyB (.tmp 56) (.tmp 65) rfl ib (512 * x) nb ic (nb - 512 * x) (ic - 512 * x) _ (l.take 0) _ rfl rfl HWD.out HSR.out (by have := HXE.out; have := HLT2.out; omega) (by have := HXE.out; omega) ?_
              intro w3 o3 t3 s3
              go_wp2_with fail
              go_roundw
              case rel => exact ⟨k + 1, by omega, by go_num, by rw [HST.out]; exact o3, HTD.out.trans t3 (fun _ _ h => h)⟩
              case measure => simp [intOf]; omega
        · have HKG : Hid (keep.getD k false = true) := HKG0.out
          by_cases ht : (k : Int) = torn ∧ 0 ≤ bytes ∧ bytes ≤ 512
          · obtain ⟨h1, h2, h3⟩ := ht
            obtain ⟨nbt, rfl⟩ := Int.eq_ofNat_of_zero_le h2
            have h1' : ((k : Int) == torn) = true := by simp [h1]
            have HFK : Hid (keptN keep torn (nbt : Int) k = nbt) := by rw [Hid]; unfold keptN; rw [if_pos ⟨h1, h2, h3⟩]; rfl
            clear h1
            obtain ⟨A3, n3, c3, r3, b3, _, _, _⟩ := HBY.out.uptorun 50 elemByte sizeByte nbt (by omega) .i64
            have HR2 : Hid (∀ W, (Instr.slice 50 (.slice Av 512 cv) none (some (.int .i64 (nbt : Int))) none).run Tryz.prog W = .ok (.slice A3 n3 c3) W) := r3
            have HSR := Lib.hid (show Byt wr.drew _ _ from b3)
            have HLT2 : Hid ((l.take nbt).length ≤ 512) := by rw [Hid, List.length_take]; omega
            rw [HFK.out] at HST
            clear r3 b3 HFK
            go_wp2_with fail
            refine wp_region_T (R := fun x y => x = y) (by kernel_rfl) (fun _ => rfl) (fun h k => h.trans k) (by kernel_rfl) 22 rfl (by kernel_rfl) (by kernel_rfl) (fun d v c a w h => by cases d <;> exact h)
              [(0, false), (1, false), (2, false), (3, false), (4, false), (5, false), (6, false), (7, false), (8, false), (9, false), (10, false), (11, false), (12, false), (13, false), (14, false), (15, false), (16, false), (17, false), (18, false), (19, false), (20, false), (21, false)] rfl (by kernel_rfl) ?_
            simp only [sel, List.getElem?_toArray, List.getElem?_cons_succ, List.getElem?_cons_zero]
            generalize wr.drew = wd at *
            iterate 3 (refine schT_take ?_ rfl ?_ ?_; rotate_left; (focus (intro u hu; go_simp <;> rfl)); simp only [Act.put, List.setIfInBounds_toArray, List.set_cons_zero, List.set_cons_succ])
            (refine schT_take ?_ rfl ?_ ?_; rotate_left; (focus (intro u hu; have c0 := hu ▸ HD0.out; clear hu; go_simp <;> rfl)); simp only [Act.put, List.setIfInBounds_toArray, List.set_cons_zero, List.set_cons_succ])
            iterate 3 (refine schT_take ?_ rfl ?_ ?_; rotate_left; (focus (intro u hu; go_simp <;> rfl)); simp only [Act.put, List.setIfInBounds_toArray, List.set_cons_zero, List.set_cons_succ])
            (refine schT_take ?_ rfl ?_ ?_; rotate_left; (focus (intro u hu; have c0 := hu ▸ HD1.out; clear hu; go_simp <;> rfl)); simp only [Act.put, List.setIfInBounds_toArray, List.set_cons_zero, List.set_cons_succ])
            iterate 2 (refine schT_take ?_ rfl ?_ ?_; rotate_left; (focus (intro u hu; go_simp <;> rfl)); simp only [Act.put, List.setIfInBounds_toArray, List.set_cons_zero, List.set_cons_succ])
            (refine schT_take ?_ rfl ?_ ?_; rotate_left; (focus (intro u hu; have c0 := hu ▸ HCN.out; clear hu; go_simp <;> rfl)); simp only [Act.put, List.setIfInBounds_toArray, List.set_cons_zero, List.set_cons_succ])
            (refine schT_take ?_ rfl ?_ ?_; rotate_left; (focus (intro u hu; have hw := HWR.out; clear hu; go_simp <;> rfl)); simp only [Act.put, List.setIfInBounds_toArray, List.set_cons_zero, List.set_cons_succ])
            (refine schT_take ?_ rfl ?_ ?_; rotate_left; (focus (intro u hu; have hr := HR1.out; clear hu; go_simp <;> rfl)); simp only [Act.put, List.setIfInBounds_toArray, List.set_cons_zero, List.set_cons_succ])
            iterate 3 (refine schT_take ?_ rfl ?_ ?_; rotate_left; (focus (intro u hu; go_simp <;> rfl)); simp only [Act.put, List.setIfInBounds_toArray, List.set_cons_zero, List.set_cons_succ])
            (refine schT_take ?_ rfl ?_ ?_; rotate_left; (focus (intro u hu; have c0 := hu ▸ HD2.out; clear hu; go_simp <;> rfl)); simp only [Act.put, List.setIfInBounds_toArray, List.set_cons_zero, List.set_cons_succ])
            iterate 2 (refine schT_take ?_ rfl ?_ ?_; rotate_left; (focus (intro u hu; go_simp <;> rfl)); simp only [Act.put, List.setIfInBounds_toArray, List.set_cons_zero, List.set_cons_succ])
            (refine schT_take ?_ rfl ?_ ?_; rotate_left; (focus (intro u hu; have c0 := hu ▸ HCV.out; clear hu; go_simp <;> rfl)); simp only [Act.put, List.setIfInBounds_toArray, List.set_cons_zero, List.set_cons_succ])
            (refine schT_take ?_ rfl ?_ ?_; rotate_left; (focus (intro u hu; go_simp <;> rfl)); simp only [Act.put, List.setIfInBounds_toArray, List.set_cons_zero, List.set_cons_succ])
            (refine schT_take ?_ rfl ?_ ?_; rotate_left; (focus (intro u hu; have hr := HR2.out; clear hu; go_simp <;> rfl)); simp only [Act.put, List.setIfInBounds_toArray, List.set_cons_zero, List.set_cons_succ])
            refine schT_nil ?_
            refine schT_last rfl rfl ?_
            refine wp_copyB (.tmp 56) (.tmp 65) rfl ib (512 * x) nb ic (nb - 512 * x) (ic - 512 * x) _ (l.take nbt) _ rfl rfl HWD.out HSR.out (by have := HXE.out; have := HLT2.out; omega) (by have := HXE.out; omega) ?_
            intro w3 o3 t3 s3
            go_wp2_with fail
            go_roundw
            case rel => exact ⟨k + 1, by omega, by go_num, by rw [HST.out]; exact o3, HTD.out.trans t3 (fun _ _ h => h)⟩
            case measure => simp [intOf]; omega
          · have HFK : Hid (keptN keep torn bytes k = 512) := by rw [Hid]; unfold keptN; rw [if_neg ht, HKG.out]; rfl
            by_cases e1 : (k : Int) = torn
            · have h1' : ((k : Int) == torn) = true := by simp [e1]
              by_cases e2 : 0 ≤ bytes
              · have e3 : ¬ bytes ≤ 512 := fun h => ht ⟨e1, e2, h⟩
                clear ht e1
                obtain ⟨A3, n3, c3, r3, b3, _, _, _⟩ := HBY.out.uptorun 50 elemByte sizeByte 512 (by omega) .i64
                have HR2 : Hid (∀ W, (Instr.slice 50 (.slice Av 512 cv) none (some (.int .i64 512)) none).run Tryz.prog W = .ok (.slice A3 n3 c3) W) := r3
                have HSR := Lib.hid (show Byt wr.drew _ _ from b3)
                have HLT2 : Hid ((l.take 512).length ≤ 512) := by rw [Hid, List.length_take]; omega
                rw [HFK.out] at HST
                clear r3 b3 HFK
                go_wp2_with fail
                refine wp_region_T (R := fun x y => x = y) (by kernel_rfl) (fun _ => rfl) (fun h k => h.trans k) (by kernel_rfl) 22 rfl (by kernel_rfl) (by kernel_rfl) (fun d v c a w h => by cases d <;> exact h)
                  [(0, false), (1, false), (2, false), (3, false), (4, false), (5, false), (6, false), (7, false), (8, false), (9, false), (10, false), (11, false), (12, false), (13, false), (14, false), (15, false), (16, false), (17, false), (18, false), (19, false), (20, false), (21, false)] rfl (by kernel_rfl) ?_
                simp only [sel, List.getElem?_toArray, List.getElem?_cons_succ, List.getElem?_cons_zero]
                generalize wr.drew = wd at *
                iterate 3 (refine schT_take ?_ rfl ?_ ?_; rotate_left; (focus (intro u hu; go_simp <;> rfl)); simp only [Act.put, List.setIfInBounds_toArray, List.set_cons_zero, List.set_cons_succ])
                (refine schT_take ?_ rfl ?_ ?_; rotate_left; (focus (intro u hu; have c0 := hu ▸ HD0.out; clear hu; go_simp <;> rfl)); simp only [Act.put, List.setIfInBounds_toArray, List.set_cons_zero, List.set_cons_succ])
                iterate 3 (refine schT_take ?_ rfl ?_ ?_; rotate_left; (focus (intro u hu; go_simp <;> rfl)); simp only [Act.put, List.setIfInBounds_toArray, List.set_cons_zero, List.set_cons_succ])
                (refine schT_take ?_ rfl ?_ ?_; rotate_left; (focus (intro u hu; have c0 := hu ▸ HD1.out; clear hu; go_simp <;> rfl)); simp only [Act.put, List.setIfInBounds_toArray, List.set_cons_zero, List.set_cons_succ])
                iterate 2 (refine schT_take ?_ rfl ?_ ?_; rotate_left; (focus (intro u hu; go_simp <;> rfl)); simp only [Act.put, List.setIfInBounds_toArray, List.set_cons_zero, List.set_cons_succ])
                (refine schT_take ?_ rfl ?_ ?_; rotate_left; (focus (intro u hu; have c0 := hu ▸ HCN.out; clear hu; go_simp <;> rfl)); simp only [Act.put, List.setIfInBounds_toArray, List.set_cons_zero, List.set_cons_succ])
                (refine schT_take ?_ rfl ?_ ?_; rotate_left; (focus (intro u hu; have hw := HWR.out; clear hu; go_simp <;> rfl)); simp only [Act.put, List.setIfInBounds_toArray, List.set_cons_zero, List.set_cons_succ])
                (refine schT_take ?_ rfl ?_ ?_; rotate_left; (focus (intro u hu; have hr := HR1.out; clear hu; go_simp <;> rfl)); simp only [Act.put, List.setIfInBounds_toArray, List.set_cons_zero, List.set_cons_succ])
                iterate 3 (refine schT_take ?_ rfl ?_ ?_; rotate_left; (focus (intro u hu; go_simp <;> rfl)); simp only [Act.put, List.setIfInBounds_toArray, List.set_cons_zero, List.set_cons_succ])
                (refine schT_take ?_ rfl ?_ ?_; rotate_left; (focus (intro u hu; have c0 := hu ▸ HD2.out; clear hu; go_simp <;> rfl)); simp only [Act.put, List.setIfInBounds_toArray, List.set_cons_zero, List.set_cons_succ])
                iterate 2 (refine schT_take ?_ rfl ?_ ?_; rotate_left; (focus (intro u hu; go_simp <;> rfl)); simp only [Act.put, List.setIfInBounds_toArray, List.set_cons_zero, List.set_cons_succ])
                (refine schT_take ?_ rfl ?_ ?_; rotate_left; (focus (intro u hu; have c0 := hu ▸ HCV.out; clear hu; go_simp <;> rfl)); simp only [Act.put, List.setIfInBounds_toArray, List.set_cons_zero, List.set_cons_succ])
                (refine schT_take ?_ rfl ?_ ?_; rotate_left; (focus (intro u hu; go_simp <;> rfl)); simp only [Act.put, List.setIfInBounds_toArray, List.set_cons_zero, List.set_cons_succ])
                (refine schT_take ?_ rfl ?_ ?_; rotate_left; (focus (intro u hu; have hr := HR2.out; clear hu; go_simp <;> rfl)); simp only [Act.put, List.setIfInBounds_toArray, List.set_cons_zero, List.set_cons_succ])
                refine schT_nil ?_
                refine schT_last rfl rfl ?_
                refine wp_copyB (.tmp 56) (.tmp 65) rfl ib (512 * x) nb ic (nb - 512 * x) (ic - 512 * x) _ (l.take 512) _ rfl rfl HWD.out HSR.out (by have := HXE.out; have := HLT2.out; omega) (by have := HXE.out; omega) ?_
                intro w3 o3 t3 s3
                go_wp2_with fail
                go_roundw
                case rel => exact ⟨k + 1, by omega, by go_num, by rw [HST.out]; exact o3, HTD.out.trans t3 (fun _ _ h => h)⟩
                case measure => simp [intOf]; omega
              · clear ht e1
                obtain ⟨A3, n3, c3, r3, b3, _, _, _⟩ := HBY.out.uptorun 50 elemByte sizeByte 512 (by omega) .i64
                have HR2 : Hid (∀ W, (Instr.slice 50 (.slice Av 512 cv) none (some (.int .i64 512)) none).run Tryz.prog W = .ok (.slice A3 n3 c3) W) := r3
                have HSR := Lib.hid (show Byt wr.drew _ _ from b3)
                have HLT2 : Hid ((l.take 512).length ≤ 512) := by rw [Hid, List.length_take]; omega
                rw [HFK.out] at HST
                clear r3 b3 HFK
                go_wp2_with fail
                refine wp_region_T (R := fun x y => x = y) (by kernel_rfl) (fun _ => rfl) (fun h k => h.trans k) (by kernel_rfl) 22 rfl (by kernel_rfl) (by kernel_rfl) (fun d v c a w h => by cases d <;> exact h)
                  [(0, false), (1, false), (2, false), (3, false), (4, false), (5, false), (6, false), (7, false), (8, false), (9, false), (10, false), (11, false), (12, false), (13, false), (14, false), (15, false), (16, false), (17, false), (18, false), (19, false), (20, false), (21, false)] rfl (by kernel_rfl) ?_
                simp only [sel, List.getElem?_toArray, List.getElem?_cons_succ, List.getElem?_cons_zero]
                generalize wr.drew = wd at *
                iterate 3 (refine schT_take ?_ rfl ?_ ?_; rotate_left; (focus (intro u hu; go_simp <;> rfl)); simp only [Act.put, List.setIfInBounds_toArray, List.set_cons_zero, List.set_cons_succ])
                (refine schT_take ?_ rfl ?_ ?_; rotate_left; (focus (intro u hu; have c0 := hu ▸ HD0.out; clear hu; go_simp <;> rfl)); simp only [Act.put, List.setIfInBounds_toArray, List.set_cons_zero, List.set_cons_succ])
                iterate 3 (refine schT_take ?_ rfl ?_ ?_; rotate_left; (focus (intro u hu; go_simp <;> rfl)); simp only [Act.put, List.setIfInBounds_toArray, List.set_cons_zero, List.set_cons_succ])
                (refine schT_take ?_ rfl ?_ ?_; rotate_left; (focus (intro u hu; have c0 := hu ▸ HD1.out; clear hu; go_simp <;> rfl)); simp only [Act.put, List.setIfInBounds_toArray, List.set_cons_zero, List.set_cons_succ])
                iterate 2 (refine schT_take ?_ rfl ?_ ?_; rotate_left; (focus (intro u hu; go_simp <;> rfl)); simp only [Act.put, List.setIfInBounds_toArray, List.set_cons_zero, List.set_cons_succ])
                (refine schT_take ?_ rfl ?_ ?_; rotate_left; (focus (intro u hu; have c0 := hu ▸ HCN.out; clear hu; go_simp <;> rfl)); simp only [Act.put, List.setIfInBounds_toArray, List.set_cons_zero, List.set_cons_succ])
                (refine schT_take ?_ rfl ?_ ?_; rotate_left; (focus (intro u hu; have hw := HWR.out; clear hu; go_simp <;> rfl)); simp only [Act.put, List.setIfInBounds_toArray, List.set_cons_zero, List.set_cons_succ])
                (refine schT_take ?_ rfl ?_ ?_; rotate_left; (focus (intro u hu; have hr := HR1.out; clear hu; go_simp <;> rfl)); simp only [Act.put, List.setIfInBounds_toArray, List.set_cons_zero, List.set_cons_succ])
                iterate 3 (refine schT_take ?_ rfl ?_ ?_; rotate_left; (focus (intro u hu; go_simp <;> rfl)); simp only [Act.put, List.setIfInBounds_toArray, List.set_cons_zero, List.set_cons_succ])
                (refine schT_take ?_ rfl ?_ ?_; rotate_left; (focus (intro u hu; have c0 := hu ▸ HD2.out; clear hu; go_simp <;> rfl)); simp only [Act.put, List.setIfInBounds_toArray, List.set_cons_zero, List.set_cons_succ])
                iterate 2 (refine schT_take ?_ rfl ?_ ?_; rotate_left; (focus (intro u hu; go_simp <;> rfl)); simp only [Act.put, List.setIfInBounds_toArray, List.set_cons_zero, List.set_cons_succ])
                (refine schT_take ?_ rfl ?_ ?_; rotate_left; (focus (intro u hu; have c0 := hu ▸ HCV.out; clear hu; go_simp <;> rfl)); simp only [Act.put, List.setIfInBounds_toArray, List.set_cons_zero, List.set_cons_succ])
                (refine schT_take ?_ rfl ?_ ?_; rotate_left; (focus (intro u hu; go_simp <;> rfl)); simp only [Act.put, List.setIfInBounds_toArray, List.set_cons_zero, List.set_cons_succ])
                (refine schT_take ?_ rfl ?_ ?_; rotate_left; (focus (intro u hu; have hr := HR2.out; clear hu; go_simp <;> rfl)); simp only [Act.put, List.setIfInBounds_toArray, List.set_cons_zero, List.set_cons_succ])
                refine schT_nil ?_
                refine schT_last rfl rfl ?_
                refine wp_copyB (.tmp 56) (.tmp 65) rfl ib (512 * x) nb ic (nb - 512 * x) (ic - 512 * x) _ (l.take 512) _ rfl rfl HWD.out HSR.out (by have := HXE.out; have := HLT2.out; omega) (by have := HXE.out; omega) ?_
                intro w3 o3 t3 s3
                go_wp2_with fail
                go_roundw
                case rel => exact ⟨k + 1, by omega, by go_num, by rw [HST.out]; exact o3, HTD.out.trans t3 (fun _ _ h => h)⟩
                case measure => simp [intOf]; omega
            · have h1' : ((k : Int) == torn) = false := by simp [e1]
              clear ht e1
              obtain ⟨A3, n3, c3, r3, b3, _, _, _⟩ := HBY.out.uptorun 50 elemByte sizeByte 512 (by omega) .i64
              have HR2 : Hid (∀ W, (Instr.slice 50 (.slice Av 512 cv) none (some (.int .i64 512)) none).run Tryz.prog W = .ok (.slice A3 n3 c3) W) := r3
              have HSR := Lib.hid (show Byt wr.drew _ _ from b3)
              have HLT2 : Hid ((l.take 512).length ≤ 512) := by rw [Hid, List.length_take]; omega
              rw [HFK.out] at HST
              clear r3 b3 HFK
              go_wp2_with fail
              refine wp_region_T (R := fun x y => x = y) (by kernel_rfl) (fun _ => rfl) (fun h k => h.trans k) (by kernel_rfl) 22 rfl (by kernel_rfl) (by kernel_rfl) (fun d v c a w h => by cases d <;> exact h)
                [(0, false), (1, false), (2, false), (3, false), (4, false), (5, false), (6, false), (7, false), (8, false), (9, false), (10, false), (11, false), (12, false), (13, false), (14, false), (15, false), (16, false), (17, false), (18, false), (19, false), (20, false), (21, false)] rfl (by kernel_rfl) ?_
              simp only [sel, List.getElem?_toArray, List.getElem?_cons_succ, List.getElem?_cons_zero]
              generalize wr.drew = wd at *
              iterate 3 (refine schT_take ?_ rfl ?_ ?_; rotate_left; (focus (intro u hu; go_simp <;> rfl)); simp only [Act.put, List.setIfInBounds_toArray, List.set_cons_zero, List.set_cons_succ])
              (refine schT_take ?_ rfl ?_ ?_; rotate_left; (focus (intro u hu; have c0 := hu ▸ HD0.out; clear hu; go_simp <;> rfl)); simp only [Act.put, List.setIfInBounds_toArray, List.set_cons_zero, List.set_cons_succ])
              iterate 3 (refine schT_take ?_ rfl ?_ ?_; rotate_left; (focus (intro u hu; go_simp <;> rfl)); simp only [Act.put, List.setIfInBounds_toArray, List.set_cons_zero, List.set_cons_succ])
              (refine schT_take ?_ rfl ?_ ?_; rotate_left; (focus (intro u hu; have c0 := hu ▸ HD1.out; clear hu; go_simp <;> rfl)); simp only [Act.put, List.setIfInBounds_toArray, List.set_cons_zero, List.set_cons_succ])
              iterate 2 (refine schT_take ?_ rfl ?_ ?_; rotate_left; (focus (intro u hu; go_simp <;> rfl)); simp only [Act.put, List.setIfInBounds_toArray, List.set_cons_zero, List.set_cons_succ])
              (refine schT_take ?_ rfl ?_ ?_; rotate_left; (focus (intro u hu; have c0 := hu ▸ HCN.out; clear hu; go_simp <;> rfl)); simp only [Act.put, List.setIfInBounds_toArray, List.set_cons_zero, List.set_cons_succ])
              (refine schT_take ?_ rfl ?_ ?_; rotate_left; (focus (intro u hu; have hw := HWR.out; clear hu; go_simp <;> rfl)); simp only [Act.put, List.setIfInBounds_toArray, List.set_cons_zero, List.set_cons_succ])
              (refine schT_take ?_ rfl ?_ ?_; rotate_left; (focus (intro u hu; have hr := HR1.out; clear hu; go_simp <;> rfl)); simp only [Act.put, List.setIfInBounds_toArray, List.set_cons_zero, List.set_cons_succ])
              iterate 3 (refine schT_take ?_ rfl ?_ ?_; rotate_left; (focus (intro u hu; go_simp <;> rfl)); simp only [Act.put, List.setIfInBounds_toArray, List.set_cons_zero, List.set_cons_succ])
              (refine schT_take ?_ rfl ?_ ?_; rotate_left; (focus (intro u hu; have c0 := hu ▸ HD2.out; clear hu; go_simp <;> rfl)); simp only [Act.put, List.setIfInBounds_toArray, List.set_cons_zero, List.set_cons_succ])
              iterate 2 (refine schT_take ?_ rfl ?_ ?_; rotate_left; (focus (intro u hu; go_simp <;> rfl)); simp only [Act.put, List.setIfInBounds_toArray, List.set_cons_zero, List.set_cons_succ])
              (refine schT_take ?_ rfl ?_ ?_; rotate_left; (focus (intro u hu; have c0 := hu ▸ HCV.out; clear hu; go_simp <;> rfl)); simp only [Act.put, List.setIfInBounds_toArray, List.set_cons_zero, List.set_cons_succ])
              (refine schT_take ?_ rfl ?_ ?_; rotate_left; (focus (intro u hu; go_simp <;> rfl)); simp only [Act.put, List.setIfInBounds_toArray, List.set_cons_zero, List.set_cons_succ])
              (refine schT_take ?_ rfl ?_ ?_; rotate_left; (focus (intro u hu; have hr := HR2.out; clear hu; go_simp <;> rfl)); simp only [Act.put, List.setIfInBounds_toArray, List.set_cons_zero, List.set_cons_succ])
              refine schT_nil ?_
              refine schT_last rfl rfl ?_
              refine wp_copyB (.tmp 56) (.tmp 65) rfl ib (512 * x) nb ic (nb - 512 * x) (ic - 512 * x) _ (l.take 512) _ rfl rfl HWD.out HSR.out (by have := HXE.out; have := HLT2.out; omega) (by have := HXE.out; omega) ?_
              intro w3 o3 t3 s3
              go_wp2_with fail
              go_roundw
              case rel => exact ⟨k + 1, by omega, by go_num, by rw [HST.out]; exact o3, HTD.out.trans t3 (fun _ _ h => h)⟩
              case measure => simp [intOf]; omega
      · have hkm' : ¬ (k : Int) < (mk : Int) := by have := Nk.out; omega
        have HKG : Hid (keep.getD k false = false) := by rw [Hid]; simp [hkl]
        by_cases ht : (k : Int) = torn ∧ 0 ≤ bytes ∧ bytes ≤ 512
        · obtain ⟨h1, h2, h3⟩ := ht
          obtain ⟨nbt, rfl⟩ := Int.eq_ofNat_of_zero_le h2
          have h1' : ((k : Int) == torn) = true := by simp [h1]
          have HFK : Hid (keptN keep torn (nbt : Int) k = nbt) := by rw [Hid]; unfold keptN; rw [if_pos ⟨h1, h2, h3⟩]; rfl
          clear h1
          obtain ⟨A3, n3, c3, r3, b3, _, _, _⟩ := HBY.out.uptorun 50 elemByte sizeByte nbt (by omega) .i64
          have HR2 : Hid (∀ W, (Instr.slice 50 (.slice Av 512 cv) none (some (.int .i64 (nbt : Int))) none).run Tryz.prog W = .ok (.slice A3 n3 c3) W) := r3
          have HSR := Lib.hid (show Byt wr.drew _ _ from b3)
          have HLT2 : Hid ((l.take nbt).length ≤ 512) := by rw [Hid, List.length_take]; omega
          rw [HFK.out] at HST
          clear r3 b3 HFK
          go_wp2_with fail
          refine wp_region_T (R := fun x y => x = y) (by kernel_rfl) (fun _ => rfl) (fun h k => h.trans k) (by kernel_rfl) 22 rfl (by kernel_rfl) (by kernel_rfl) (fun d v c a w h => by cases d <;> exact h)
            [(0, false), (1, false), (2, false), (3, false), (4, false), (5, false), (6, false), (7, false), (8, false), (9, false), (10, false), (11, false), (12, false), (13, false), (14, false), (15, false), (16, false), (17, false), (18, false), (19, false), (20, false), (21, false)] rfl (by kernel_rfl) ?_
          simp only [sel, List.getElem?_toArray, List.getElem?_cons_succ, List.getElem?_cons_zero]
          generalize wr.drew = wd at *
          iterate 3 (refine schT_take ?_ rfl ?_ ?_; rotate_left; (focus (intro u hu; go_simp <;> rfl)); simp only [Act.put, List.setIfInBounds_toArray, List.set_cons_zero, List.set_cons_succ])
          (refine schT_take ?_ rfl ?_ ?_; rotate_left; (focus (intro u hu; have c0 := hu ▸ HD0.out; clear hu; go_simp <;> rfl)); simp only [Act.put, List.setIfInBounds_toArray, List.set_cons_zero, List.set_cons_succ])
          iterate 3 (refine schT_take ?_ rfl ?_ ?_; rotate_left; (focus (intro u hu; go_simp <;> rfl)); simp only [Act.put, List.setIfInBounds_toArray, List.set_cons_zero, List.set_cons_succ])
          (refine schT_take ?_ rfl ?_ ?_; rotate_left; (focus (intro u hu; have c0 := hu ▸ HD1.out; clear hu; go_simp <;> rfl)); simp only [Act.put, List.setIfInBounds_toArray, List.set_cons_zero, List.set_cons_succ])
          iterate 2 (refine schT_take ?_ rfl ?_ ?_; rotate_left; (focus (intro u hu; go_simp <;> rfl)); simp only [Act.put, List.setIfInBounds_toArray, List.set_cons_zero, List.set_cons_succ])
          (refine schT_take ?_ rfl ?_ ?_; rotate_left; (focus (intro u hu; have c0 := hu ▸ HCN.out; clear hu; go_simp <;> rfl)); simp only [Act.put, List.setIfInBounds_toArray, List.set_cons_zero, List.set_cons_succ])
          (refine schT_take ?_ rfl ?_ ?_; rotate_left; (focus (intro u hu; have hw := HWR.out; clear hu; go_simp <;> rfl)); simp only [Act.put, List.setIfInBounds_toArray, List.set_cons_zero, List.set_cons_succ])
          (refine schT_take ?_ rfl ?_ ?_; rotate_left; (focus (intro u hu; have hr := HR1.out; clear hu; go_simp <;> rfl)); simp only [Act.put, List.setIfInBounds_toArray, List.set_cons_zero, List.set_cons_succ])
          iterate 3 (refine schT_take ?_ rfl ?_ ?_; rotate_left; (focus (intro u hu; go_simp <;> rfl)); simp only [Act.put, List.setIfInBounds_toArray, List.set_cons_zero, List.set_cons_succ])
          (refine schT_take ?_ rfl ?_ ?_; rotate_left; (focus (intro u hu; have c0 := hu ▸ HD2.out; clear hu; go_simp <;> rfl)); simp only [Act.put, List.setIfInBounds_toArray, List.set_cons_zero, List.set_cons_succ])
          iterate 2 (refine schT_take ?_ rfl ?_ ?_; rotate_left; (focus (intro u hu; go_simp <;> rfl)); simp only [Act.put, List.setIfInBounds_toArray, List.set_cons_zero, List.set_cons_succ])
          (refine schT_take ?_ rfl ?_ ?_; rotate_left; (focus (intro u hu; have c0 := hu ▸ HCV.out; clear hu; go_simp <;> rfl)); simp only [Act.put, List.setIfInBounds_toArray, List.set_cons_zero, List.set_cons_succ])
          (refine schT_take ?_ rfl ?_ ?_; rotate_left; (focus (intro u hu; go_simp <;> rfl)); simp only [Act.put, List.setIfInBounds_toArray, List.set_cons_zero, List.set_cons_succ])
          (refine schT_take ?_ rfl ?_ ?_; rotate_left; (focus (intro u hu; have hr := HR2.out; clear hu; go_simp <;> rfl)); simp only [Act.put, List.setIfInBounds_toArray, List.set_cons_zero, List.set_cons_succ])
          refine schT_nil ?_
          refine schT_last rfl rfl ?_
          refine wp_copyB (.tmp 56) (.tmp 65) rfl ib (512 * x) nb ic (nb - 512 * x) (ic - 512 * x) _ (l.take nbt) _ rfl rfl HWD.out HSR.out (by have := HXE.out; have := HLT2.out; omega) (by have := HXE.out; omega) ?_
          intro w3 o3 t3 s3
          go_wp2_with fail
          go_roundw
          case rel => exact ⟨k + 1, by omega, by go_num, by rw [HST.out]; exact o3, HTD.out.trans t3 (fun _ _ h => h)⟩
          case measure => simp [intOf]; omega
        · have HFK : Hid (keptN keep torn bytes k = 0) := by rw [Hid]; unfold keptN; rw [if_neg ht, HKG.out]; rfl
          by_cases e1 : (k : Int) = torn
          · have h1' : ((k : Int) == torn) = true := by simp [e1]
            by_cases e2 : 0 ≤ bytes
            · have e3 : ¬ bytes ≤ 512 := fun h => ht ⟨e1, e2, h⟩
              clear ht e1
              obtain ⟨A3, n3, c3, r3, b3, _, _, _⟩ := HBY.out.uptorun 50 elemByte sizeByte 0 (by omega) .i64
              have HR2 : Hid (∀ W, (Instr.slice 50 (.slice Av 512 cv) none (some (.int .i64 0)) none).run Tryz.prog W = .ok (.slice A3 n3 c3) W) := r3
              have HSR := Lib.hid (show Byt wr.drew _ _ from b3)
              have HLT2 : Hid ((l.take 0).length ≤ 512) := by rw [Hid, List.length_take]; omega
              rw [HFK.out] at HST
              clear r3 b3 HFK
              go_wp2_with fail
              refine wp_region_T (R := fun x y => x = y) (by kernel_rfl) (fun _ => rfl) (fun h k => h.trans k) (by kernel_rfl) 22 rfl (by kernel_rfl) (by kernel_rfl) (fun d v c a w h => by cases d <;> exact h)
                [(0, false), (1, false), (2, false), (3, false), (4, false), (5, false), (6, false), (7, false), (8, false), (9, false), (10, false), (11, false), (12, false), (13, false), (14, false), (15, false), (16, false), (17, false), (18, false), (19, false), (20, false), (21, false)] rfl (by kernel_rfl) ?_
              simp only [sel, List.getElem?_toArray, List.getElem?_cons_succ, List.getElem?_cons_zero]
              generalize wr.drew = wd at *
              iterate 3 (refine schT_take ?_ rfl ?_ ?_; rotate_left; (focus (intro u hu; go_simp <;> rfl)); simp only [Act.put, List.setIfInBounds_toArray, List.set_cons_zero, List.set_cons_succ])
              (refine schT_take ?_ rfl ?_ ?_; rotate_left; (focus (intro u hu; have c0 := hu ▸ HD0.out; clear hu; go_simp <;> rfl)); simp only [Act.put, List.setIfInBounds_toArray, List.set_cons_zero, List.set_cons_succ])
              iterate 3 (refine schT_take ?_ rfl ?_ ?_; rotate_left; (focus (intro u hu; go_simp <;> rfl)); simp only [Act.put, List.setIfInBounds_toArray, List.set_cons_zero, List.set_cons_succ])
              (refine schT_take ?_ rfl ?_ ?_; rotate_left; (focus (intro u hu; have c0 := hu ▸ HD1.out; clear hu; go_simp <;> rfl)); simp only [Act.put, List.setIfInBounds_toArray, List.set_cons_zero, List.set_cons_succ])
              iterate 2 (refine schT_take ?_ rfl ?_ ?_; rotate_left; (focus (intro u hu; go_simp <;> rfl)); simp only [Act.put, List.setIfInBounds_toArray, List.set_cons_zero, List.set_cons_succ])
              (refine schT_take ?_ rfl ?_ ?_; rotate_left; (focus (intro u hu; have c0 := hu ▸ HCN.out; clear hu; go_simp <;> rfl)); simp only [Act.put, List.setIfInBounds_toArray, List.set_cons_zero, List.set_cons_succ])
              (refine schT_take ?_ rfl ?_ ?_; rotate_left; (focus (intro u hu; have hw := HWR.out; clear hu; go_simp <;> rfl)); simp only [Act.put, List.setIfInBounds_toArray, List.set_cons_zero, List.set_cons_succ])
              (refine schT_take ?_ rfl ?_ ?_; rotate_left; (focus (intro u hu; have hr := HR1.out; clear hu; go_simp <;> rfl)); simp only [Act.put, List.setIfInBounds_toArray, List.set_cons_zero, List.set_cons_succ])
              iterate 3 (refine schT_take ?_ rfl ?_ ?_; rotate_left; (focus (intro u hu; go_simp <;> rfl)); simp only [Act.put, List.setIfInBounds_toArray, List.set_cons_zero, List.set_cons_succ])
              (refine schT_take ?_ rfl ?_ ?_; rotate_left; (focus (intro u hu; have c0 := hu ▸ HD2.out; clear hu; go_simp <;> rfl)); simp only [Act.put, List.setIfInBounds_toArray, List.set_cons_zero, List.set_cons_succ])
              iterate 2 (refine schT_take ?_ rfl ?_ ?_; rotate_left; (focus (intro u hu; go_simp <;> rfl)); simp only [Act.put, List.setIfInBounds_toArray, List.set_cons_zero, List.set_cons_succ])
              (refine schT_take ?_ rfl ?_ ?_; rotate_left; (focus (intro u hu; have c0 := hu ▸ HCV.out; clear hu; go_simp <;> rfl)); simp only [Act.put, List.setIfInBounds_toArray, List.set_cons_zero, List.set_cons_succ])
              (refine schT_take ?_ rfl ?_ ?_; rotate_left; (focus (intro u hu; go_simp <;> rfl)); simp only [Act.put, List.setIfInBounds_toArray, List.set_cons_zero, List.set_cons_succ])
              (refine schT_take ?_ rfl ?_ ?_; rotate_left; (focus (intro u hu; have hr := HR2.out; clear hu; go_simp <;> rfl)); simp only [Act.put, List.setIfInBounds_toArray, List.set_cons_zero, List.set_cons_succ])
              refine schT_nil ?_
              refine schT_last rfl rfl ?_
              refine wp_copyB (.tmp 56) (.tmp 65) rfl ib (512 * x) nb ic (nb - 512 * x) (ic - 512 * x) _ (l.take 0) _ rfl rfl HWD.out HSR.out (by have := HXE.out; have := HLT2.out; omega) (by have := HXE.out; omega) ?_
              intro w3 o3 t3 s3
              go_wp2_with fail
              go_roundw
              case rel => exact ⟨k + 1, by omega, by go_num, by rw [HST.out]; exact o3, HTD.out.trans t3 (fun _ _ h => h)⟩
              case measure => simp [intOf]; omega
            · clear ht e1
              obtain ⟨A3, n3, c3, r3, b3, _, _, _⟩ := HBY.out.uptorun 50 elemByte sizeByte 0 (by omega) .i64
              have HR2 : Hid (∀ W, (Instr.slice 50 (.slice Av 512 cv) none (some (.int .i64 0)) none).run Tryz.prog W = .ok (.slice A3 n3 c3) W) := r3
              have HSR := Lib.hid (show Byt wr.drew _ _ from b3)
              have HLT2 : Hid ((l.take 0).length ≤ 512) := by rw [Hid, List.length_take]; omega
              rw [HFK.out] at HST
              clear r3 b3 HFK
              go_wp2_with fail
              refine wp_region_T (R := fun x y => x = y) (by kernel_rfl) (fun _ => rfl) (fun h k => h.trans k) (by kernel_rfl) 22 rfl (by kernel_rfl) (by kernel_rfl) (fun d v c a w h => by cases d <;> exact h)
                [(0, false), (1, false), (2, false), (3, false), (4, false), (5, false), (6, false), (7, false), (8, false), (9, false), (10, false), (11, false), (12, false), (13, false), (14, false), (15, false), (16, false), (17, false), (18, false), (19, false), (20, false), (21, false)] rfl (by kernel_rfl) ?_
              simp only [sel, List.getElem?_toArray, List.getElem?_cons_succ, List.getElem?_cons_zero]
              generalize wr.drew = wd at *
              iterate 3 (refine schT_take ?_ rfl ?_ ?_; rotate_left; (focus (intro u hu; go_simp <;> rfl)); simp only [Act.put, List.setIfInBounds_toArray, List.set_cons_zero, List.set_cons_succ])
              (refine schT_take ?_ rfl ?_ ?_; rotate_left; (focus (intro u hu; have c0 := hu ▸ HD0.out; clear hu; go_simp <;> rfl)); simp only [Act.put, List.setIfInBounds_toArray, List.set_cons_zero, List.set_cons_succ])
              iterate 3 (refine schT_take ?_ rfl ?_ ?_; rotate_left; (focus (intro u hu; go_simp <;> rfl)); simp only [Act.put, List.setIfInBounds_toArray, List.set_cons_zero, List.set_cons_succ])
              (refine schT_take ?_ rfl ?_ ?_; rotate_left; (focus (intro u hu; have c0 := hu ▸ HD1.out; clear hu; go_simp <;> rfl)); simp only [Act.put, List.setIfInBounds_toArray, List.set_cons_zero, List.set_cons_succ])
              iterate 2 (refine schT_take ?_ rfl ?_ ?_; rotate_left; (focus (intro u hu; go_simp <;> rfl)); simp only [Act.put, List.setIfInBounds_toArray, List.set_cons_zero, List.set_cons_succ])
              (refine schT_take ?_ rfl ?_ ?_; rotate_left; (focus (intro u hu; have c0 := hu ▸ HCN.out; clear hu; go_simp <;> rfl)); simp only [Act.put, List.setIfInBounds_toArray, List.set_cons_zero, List.set_cons_succ])
              (refine schT_take ?_ rfl ?_ ?_; rotate_left; (focus (intro u hu; have hw := HWR.out; clear hu; go_simp <;> rfl)); simp only [Act.put, List.setIfInBounds_toArray, List.set_cons_zero, List.set_cons_succ])
              (refine schT_take ?_ rfl ?_ ?_; rotate_left; (focus (intro u hu; have hr := HR1.out; clear hu; go_simp <;> rfl)); simp only [Act.put, List.setIfInBounds_toArray, List.set_cons_zero, List.set_cons_succ])
              iterate 3 (refine schT_take ?_ rfl ?_ ?_; rotate_left; (focus (intro u hu; go_simp <;> rfl)); simp only [Act.put, List.setIfInBounds_toArray, List.set_cons_zero, List.set_cons_succ])
              (refine schT_take ?_ rfl ?_ ?_; rotate_left; (focus (intro u hu; have c0 := hu ▸ HD2.out; clear hu; go_simp <;> rfl)); simp only [Act.put, List.setIfInBounds_toArray, List.set_cons_zero, List.set_cons_succ])
              iterate 2 (refine schT_take ?_ rfl ?_ ?_; rotate_left; (focus (intro u hu; go_simp <;> rfl)); simp only [Act.put, List.setIfInBounds_toArray, List.set_cons_zero, List.set_cons_succ])
              (refine schT_take ?_ rfl ?_ ?_; rotate_left; (focus (intro u hu; have c0 := hu ▸ HCV.out; clear hu; go_simp <;> rfl)); simp only [Act.put, List.setIfInBounds_toArray, List.set_cons_zero, List.set_cons_succ])
              (refine schT_take ?_ rfl ?_ ?_; rotate_left; (focus (intro u hu; go_simp <;> rfl)); simp only [Act.put, List.setIfInBounds_toArray, List.set_cons_zero, List.set_cons_succ])
              (refine schT_take ?_ rfl ?_ ?_; rotate_left; (focus (intro u hu; have hr := HR2.out; clear hu; go_simp <;> rfl)); simp only [Act.put, List.setIfInBounds_toArray, List.set_cons_zero, List.set_cons_succ])
              refine schT_nil ?_
              refine schT_last rfl rfl ?_
              refine wp_copyB (.tmp 56) (.tmp 65) rfl ib (512 * x) nb ic (nb - 512 * x) (ic - 512 * x) _ (l.take 0) _ rfl rfl HWD.out HSR.out (by have := HXE.out; have := HLT2.out; omega) (by have := HXE.out; omega) ?_
              intro w3 o3 t3 s3
              go_wp2_with fail
              go_roundw
              case rel => exact ⟨k + 1, by omega, by go_num, by rw [HST.out]; exact o3, HTD.out.trans t3 (fun _ _ h => h)⟩
              case measure => simp [intOf]; omega
          · have h1' : ((k : Int) == torn) = false := by simp [e1]
            clear ht e1
            obtain ⟨A3, n3, c3, r3, b3, _, _, _⟩ := HBY.out.uptorun 50 elemByte sizeByte 0 (by omega) .i64
            have HR2 : Hid (∀ W, (Instr.slice 50 (.slice Av 512 cv) none (some (.int .i64 0)) none).run Tryz.prog W = .ok (.slice A3 n3 c3) W) := r3
            have HSR := Lib.hid (show Byt wr.drew _ _ from b3)
            have HLT2 : Hid ((l.take 0).length ≤ 512) := by rw [Hid, List.length_take]; omega
            rw [HFK.out] at HST
            clear r3 b3 HFK
            go_wp2_with fail
            refine wp_region_T (R := fun x y => x = y) (by kernel_rfl) (fun _ => rfl) (fun h k => h.trans k) (by kernel_rfl) 22 rfl (by kernel_rfl) (by kernel_rfl) (fun d v c a w h => by cases d <;> exact h)
              [(0, false), (1, false), (2, false), (3, false), (4, false), (5, false), (6, false), (7, false), (8, false), (9, false), (10, false), (11, false), (12, false), (13, false), (14, false), (15, false), (16, false), (17, false), (18, false), (19, false), (20, false), (21, false)] rfl (by kernel_rfl) ?_
            simp only [sel, List.getElem?_toArray, List.getElem?_cons_succ, List.getElem?_cons_zero]
            generalize wr.drew = wd at *
            iterate 3 (refine schT_take ?_ rfl ?_ ?_; rotate_left; (focus (intro u hu; go_simp <;> rfl)); simp only [Act.put, List.setIfInBounds_toArray, List.set_cons_zero, List.set_cons_succ])
            (refine schT_take ?_ rfl ?_ ?_; rotate_left; (focus (intro u hu; have c0 := hu ▸ HD0.out; clear hu; go_simp <;> rfl)); simp only [Act.put, List.setIfInBounds_toArray, List.set_cons_zero, List.set_cons_succ])
            iterate 3 (refine schT_take ?_ rfl ?_ ?_; rotate_left; (focus (intro u hu; go_simp <;> rfl)); simp only [Act.put, List.setIfInBounds_toArray, List.set_cons_zero, List.set_cons_succ])
            (refine schT_take ?_ rfl ?_ ?_; rotate_left; (focus (intro u hu; have c0 := hu ▸ HD1.out; clear hu; go_simp <;> rfl)); simp only [Act.put, List.setIfInBounds_toArray, List.set_cons_zero, List.set_cons_succ])
            iterate 2 (refine schT_take ?_ rfl ?_ ?_; rotate_left; (focus (intro u hu; go_simp <;> rfl)); simp only [Act.put, List.setIfInBounds_toArray, List.set_cons_zero, List.set_cons_succ])
            (refine schT_take ?_ rfl ?_ ?_; rotate_left; (focus (intro u hu; have c0 := hu ▸ HCN.out; clear hu; go_simp <;> rfl)); simp only [Act.put, List.setIfInBounds_toArray, List.set_cons_zero, List.set_cons_succ])
            (refine schT_take ?_ rfl ?_ ?_; rotate_left; (focus (intro u hu; have hw := HWR.out; clear hu; go_simp <;> rfl)); simp only [Act.put, List.setIfInBounds_toArray, List.set_cons_zero, List.set_cons_succ])
            (refine schT_take ?_ rfl ?_ ?_; rotate_left; (focus (intro u hu; have hr := HR1.out; clear hu; go_simp <;> rfl)); simp only [Act.put, List.setIfInBounds_toArray, List.set_cons_zero, List.set_cons_succ])
            iterate 3 (refine schT_take ?_ rfl ?_ ?_; rotate_left; (focus (intro u hu; go_simp <;> rfl)); simp only [Act.put, List.setIfInBounds_toArray, List.set_cons_zero, List.set_cons_succ])
            (refine schT_take ?_ rfl ?_ ?_; rotate_left; (focus (intro u hu; have c0 := hu ▸ HD2.out; clear hu; go_simp <;> rfl)); simp only [Act.put, List.setIfInBounds_toArray, List.set_cons_zero, List.set_cons_succ])
            iterate 2 (refine schT_take ?_ rfl ?_ ?_; rotate_left; (focus (intro u hu; go_simp <;> rfl)); simp only [Act.put, List.setIfInBounds_toArray, List.set_cons_zero, List.set_cons_succ])
            (refine schT_take ?_ rfl ?_ ?_; rotate_left; (focus (intro u hu; have c0 := hu ▸ HCV.out; clear hu; go_simp <;> rfl)); simp only [Act.put, List.setIfInBounds_toArray, List.set_cons_zero, List.set_cons_succ])
            (refine schT_take ?_ rfl ?_ ?_; rotate_left; (focus (intro u hu; go_simp <;> rfl)); simp only [Act.put, List.setIfInBounds_toArray, List.set_cons_zero, List.set_cons_succ])
            (refine schT_take ?_ rfl ?_ ?_; rotate_left; (focus (intro u hu; have hr := HR2.out; clear hu; go_simp <;> rfl)); simp only [Act.put, List.setIfInBounds_toArray, List.set_cons_zero, List.set_cons_succ])
            refine schT_nil ?_
            refine schT_last rfl rfl ?_
            refine wp_copyB (.tmp 56) (.tmp 65) rfl ib (512 * x) nb ic (nb - 512 * x) (ic - 512 * x) _ (l.take 0) _ rfl rfl HWD.out HSR.out (by have := HXE.out; have := HLT2.out; omega) (by have := HXE.out; omega) ?_
            intro w3 o3 t3 s3
            go_wp2_with fail
            go_roundw
            case rel => exact ⟨k + 1, by omega, by go_num, by rw [HST.out]; exact o3, HTD.out.trans t3 (fun _ _ h => h)⟩
            case measure => simp [intOf]; omega
    · obtain rfl : k = s.C.length := by omega
      have hkn : ¬ ((s.C.length : Nat) : Int) < (n1 : Int) := by have := NN.out; omega
      have hobj := (HT.out.block g (HFT.out.lt g HFT.out.g) (fun e => HA.out.ib_g e.symm)).trans HA.out.obj
      obtain ⟨d0, d1, d2, d3, f1, f2, f3⟩ := robj_cells hobj
      have HX := Lib.hid ((rsettled HA.out HFT.out HO.out HW.out HT.out).setF none)
      have hgs : ∀ k, S k → k < w1.heap.size := HFT.out.lt
      clear hobj
      go_wp2_with fail
      go_ret
      have hsz : (((wr.setCell ⟨g, 1, none⟩ (.slice none 0 0)).setCell ⟨g, 2, none⟩ (.slice none 0 0)).setCell ⟨g, 3, none⟩ (.int .i64 (-1))).heap.size = wr.heap.size := by rw [setCell_size, setCell_size, setCell_size]
      have htr : Trn S w (((wr.setCell ⟨g, 1, none⟩ (.slice none 0 0)).setCell ⟨g, 2, none⟩ (.slice none 0 0)).setCell ⟨g, 3, none⟩ (.int .i64 (-1))) := ((((Trn.of_below HB1.out (S := S)).trans (HT.out.wide (T := S) (fun _ e => e ▸ HFT.out.ib)) (fun _ _ h => h)).setCell _ (fun _ => HFT.out.g)).setCell _ (fun _ => HFT.out.g)).setCell _ (fun _ => HFT.out.g)
      refine ⟨rfl, Ref.more ⟨ib, ic, _, _, _, HX.out, ⟨HFT.out.g, HFT.out.ib, fun k hk => (by cases hk), fun k hk => (by cases hk), fun v hv => (by cases hv), fun k hk => by rw [hsz]; exact Nat.lt_of_lt_of_le (hgs k hk) HT.out.size⟩, HO.out.crash _ _ _⟩ htr.size HLT.out, htr⟩
end Go.Proofs.YteeljcnmgfjcmaaGreatDoor

/-
  Regions whose order is open, as machines: an invariant that every operation that may come up keeps, or leaves for good. Over any program. Conditions: none.
-/
namespace Go.Proofs.YteeljcnmgfjcmaaGreatDoor
open Go Go.RowKit
set_option maxRecDepth 100000

theorem ev_ne {a : Act} {d k : Nat} {v : Value} (h : d ≠ k) : (a.put (some d) v).eval (.tmp k) = a.eval (.tmp k) := by
  simp [Act.put, Act.eval, Array.getD_eq_getD_getElem?, h]
theorem ev_eq {a : Act} {d : Nat} {v : Value} (h : d < a.tmps.size) : (a.put (some d) v).eval (.tmp d) = v := by
  simp [Act.put, Act.eval, Array.getD_eq_getD_getElem?, h]
theorem wanted_plain {o : Oper} (h : o.guard = none) (y : Nat → Option Bool) : Region.wanted o y = true := by unfold Region.wanted; rw [h]
/-- One operation of a region, by its plain form. -/
def OpAt (ops : Array Oper) (i : Nat) (op : Op) (d : Option Nat) : Prop := ∃ o, ops[i]? = some o ∧ o.op = op ∧ o.dst = d ∧ o.guard = none
section
variable {P : Program} {md : Region.Mode} {ops : Array Oper} {Q : Exit → Act → World → Prop}
theorem OpAt.wp {i : Nat} {op : Op} {d : Option Nat} (h : OpAt ops i op d) {K : Act → World → Prop} {a : Act} {u : World} (hh : ∀ o : Oper, o.op = op → o.dst = d → o.wp P a u K Q) : wpOp P ops Q i K a u := by
  obtain ⟨o, h1, h2, h3, h4⟩ := h
  refine wpOp_step h1 (fun K' hK => ?_)
  rw [if_pos (wanted_plain h4 _)]
  exact Oper.wp_mono hK (hh o h2 h3)
/-- A region as a machine: an invariant that every operation that may come up keeps, or leaves for good. -/
theorem mach {I : Nat → Array Bool → Act → World → Prop}
    (hs : ∀ k L a u, I k L a u → ∃ k' rs, k = k' + 1 ∧ Region.ready md ops L = rs ∧ rs ≠ [] ∧ ∀ i ∈ rs, wpOp P ops Q i (fun a' u' => I k' (L.setIfInBounds i true) a' u' ∨ wpAny P md ops Q k' (L.setIfInBounds i true) a' u') a u) :
    ∀ k L a u, I k L a u → wpAny P md ops Q k L a u := by
  intro k
  induction k with
  | zero =>
    intro L a u h
    obtain ⟨k', rs, e, _⟩ := hs 0 L a u h
    omega
  | succ k ih =>
    intro L a u h
    obtain ⟨k', rs, e, hr, hne, hall⟩ := hs _ L a u h
    obtain rfl : k' = k := by omega
    exact wpAny_all hr hne (fun i hi => wpOp_mono (fun a' u' h' => h'.elim (ih _ a' u') id) (hall i hi))
theorem one_op {i : Nat} {L : Array Bool} {a : Act} {u : World} {fuel : Nat} (hr : Region.ready md ops L = [i]) (h : wpOp P ops Q i (wpAny P md ops Q fuel (L.setIfInBounds i true)) a u) : wpAny P md ops Q (fuel + 1) L a u :=
  wpAny_all hr (by simp) (fun j hj => by obtain rfl : j = i := List.mem_singleton.1 hj; exact h)
end
theorem take_plain {P : Program} {md : Region.Mode} {ops : Array Oper} {Q : Exit → Act → World → Prop} (i d : Nat) {oi : Oper} (v : Value) {fuel : Nat} {listed : Array Bool} {a : Act} {w : World} (hi : ops[i]? = some oi) (hd : oi.dst = some d)
    (hs : Region.noSelect ops = true) (hf : Region.free md ops listed i = true) (hr : (Region.ready md ops listed).contains i = true) (hQ : ∀ c a w, Q (.panic c) (a.put (some d) v) w → Q (.panic c) a w)
    (hw : Region.wanted oi (yielded ops a.tmps) = true) (hy : ∀ w, (execOp a.eval oi).run P w = .ok (.value v) w) (h : wpAny P md ops Q fuel (listed.setIfInBounds i true) (a.put (some d) v) w) : wpAny P md ops Q (fuel + 1) listed a w :=
  wpAny_take hi hs hf hr (by rw [hd]; exact hQ) (.inl ⟨hw, hy⟩) (by rw [hd]; exact h)
theorem any_lst {P : Program} {md : Region.Mode} {ops : Array Oper} {Q : Exit → Act → World → Prop} {fuel : Nat} {L L' : Array Bool} {a : Act} {w : World} (h : L = L') (hh : wpAny P md ops Q fuel L' a w) : wpAny P md ops Q fuel L a w := h ▸ hh
end Go.Proofs.YteeljcnmgfjcmaaGreatDoor

/-
  The region of tallymanref04's Write that puts a new sector into the cache: its order is drawn. What it holds at each step, for any order. Conditions: none.
-/
namespace Go.Proofs.YteeljcnmgfjcmaaGreatDoor
open Go.RowKit Go.Maps
set_option maxRecDepth 100000

theorem ownsRow_lt {w : World} {e : TypeId} {v : Value} {n k : Nat} {xs : List Value} (h : w.ownsRow 0 e 1 v n xs) (hk : v.ownBlock = some k) : k < w.heap.size := by
  obtain ⟨cur, hc⟩ := ownsRow_block h hk
  exact (Array.getElem?_eq_some_iff.1 hc).1
structure Mid (w u : World) (S : Nat → Prop) (g ib ic : Nat) (s : St) (vn vc : Value) (vs : List Value) (x : Value) (l : List UInt8) (vn' : Value) (ks : List Value) : Prop where
  obj : u.heap[g]? = some (.cells #[.slice (some ⟨ib, 0, none⟩) s.B.length ic, vn, vc, .int .i64 (fuseI s.F)] 54 (0, 0))
  img : Own u 0 5 (.slice (some ⟨ib, 0, none⟩) s.B.length ic) s.B
  ord : u.ownsRow 0 3 1 vn' ks.length ks
  rows : u.ownsRow 0 50 1 vc s.C.length vs
  each : ∀ j (hj : j < s.C.length) (hv : j < vs.length), Own u 0 5 vs[j] s.C[j].2 ∧ vs[j].ownBlock ≠ some ib
  own : Own u 0 5 x l
  xib : x.ownBlock ≠ some ib
  trn : Trn S w u
  fn : ∀ k, vn'.ownBlock = some k → more S w u k
section
variable {w u u' : World} {S : Nat → Prop} {g ib ic : Nat} {s : St} {vn vc : Value} {vs : List Value} {x : Value} {l : List UInt8} {vn' : Value} {ks : List Value}
theorem Mid.below (h : Mid w u S g ib ic s vn vc vs x l vn' ks) (hb : Below u.heap.size u u') : Mid w u' S g ib ic s vn vc vs x l vn' ks := by
  have lt : ∀ {e : TypeId} {v : Value} {n : Nat} {xs : List Value}, u.ownsRow 0 e 1 v n xs → u'.ownsRow 0 e 1 v n xs := fun ho => ownsRow_same ho (fun k hk => hb.block k (ownsRow_lt ho hk))
  refine ⟨(hb.block g (Array.getElem?_eq_some_iff.1 h.obj).1).trans h.obj, lt h.img, lt h.ord, lt h.rows, fun j hj hv => ⟨lt (h.each j hj hv).1, (h.each j hj hv).2⟩, lt h.own, h.xib, h.trn.trans (T := fun _ => False) (Trn.of_below hb) (fun _ _ f => f.elim), fun k hk => ?_⟩
  have := hb.size
  exact (h.fn k hk).elim .inl (fun h => .inr ⟨h.1, by omega⟩)
theorem Mid.grow (h : Mid w u S g ib ic s vn vc vs x l vn ks) (hS : ∀ k, vn.ownBlock = some k → S k) {y v' : Value} (hg : u.grownBy u' vn.ownBlock) (ho : u'.ownsRow 0 3 1 v' (ks.length + 1) (ks ++ [y])) (hw : v'.ownBlock = vn.ownBlock ∨ v'.ownBlock = some u.heap.size) :
    Mid w u' S g ib ic s vn vc vs x l v' (ks ++ [y]) := by
  have ht : Trn (fun i => vn.ownBlock = some i) u u' := Trn.of_grown hg (fun i hi => hi)
  have hb : ∀ {k : Nat} {cur : Array Value} {t : TypeId} {f : Nat × Nat}, u.heap[k]? = some (.cells cur t f) → t ≠ 3 → u'.heap[k]? = u.heap[k]? := fun {k cur t f} hc hne =>
    ht.block k (Array.getElem?_eq_some_iff.1 hc).1 (fun e => by
      obtain ⟨c2, h2⟩ := ownsRow_block h.ord e
      exact tag_ne hc h2 hne rfl)
  have lt : ∀ {e : TypeId} {v : Value} {n : Nat} {xs : List Value}, e ≠ 3 → u.ownsRow 0 e 1 v n xs → u'.ownsRow 0 e 1 v n xs := fun hne ho => ownsRow_same ho (fun k hk => by
    obtain ⟨c2, h2⟩ := ownsRow_block ho hk
    exact hb h2 hne)
  refine ⟨(hb h.obj (by decide)).trans h.obj, lt (by decide) h.img, by simpa using ho, lt (by decide) h.rows, fun j hj hv => ⟨lt (by decide) (h.each j hj hv).1, (h.each j hj hv).2⟩, lt (by decide) h.own, h.xib, h.trn.trans ht (fun i _ e => hS i e), fun k hk => ?_⟩
  have hlt := ownsRow_lt ho hk
  rcases hw with hw | hw
  · exact .inl (hS k (hw ▸ hk))
  · rw [hw] at hk
    injection hk with hk
    have := h.trn.size
    exact .inr ⟨by omega, hlt⟩
theorem Mid.fin {n : Nat} (h : Mid w u S g ib ic s vn vc vs x l vn' (inz (keysC s.C) ++ [.int .i64 ((n : Nat) : Int)])) (F : RFoot S w g ib vn vc vs) (hfx : ∀ k, x.ownBlock = some k → w.heap.size ≤ k) (hno : lookC s.C n = none) {v' : Value} (hg : u.grownBy u' vc.ownBlock) (ho : u'.ownsRow 0 50 1 v' (s.C.length + 1) (vs ++ [x])) (hw : v'.ownBlock = vc.ownBlock ∨ v'.ownBlock = some u.heap.size) :
    u'.heap[g]? = u.heap[g]? ∧ RefAt ((u'.setCell ⟨g, 1, none⟩ vn').setCell ⟨g, 2, none⟩ v') g (writeS s n l) ib ic vn' v' (vs ++ [x]) ∧ RFoot (more S w ((u'.setCell ⟨g, 1, none⟩ vn').setCell ⟨g, 2, none⟩ v')) ((u'.setCell ⟨g, 1, none⟩ vn').setCell ⟨g, 2, none⟩ v') g ib vn' v' (vs ++ [x]) ∧ Trn S w ((u'.setCell ⟨g, 1, none⟩ vn').setCell ⟨g, 2, none⟩ v') := by
  have ht : Trn (fun i => vc.ownBlock = some i) u u' := Trn.of_grown hg (fun i hi => hi)
  have hb : ∀ {k : Nat} {cur : Array Value} {t : TypeId} {f : Nat × Nat}, u.heap[k]? = some (.cells cur t f) → t ≠ 50 → u'.heap[k]? = u.heap[k]? := fun {k cur t f} hc hne =>
    ht.block k (Array.getElem?_eq_some_iff.1 hc).1 (fun e => by
      obtain ⟨c2, h2⟩ := ownsRow_block h.rows e
      exact tag_ne hc h2 hne rfl)
  have hog := hb h.obj (by decide)
  have hobj := hog.trans h.obj
  have hsz : ((u'.setCell ⟨g, 1, none⟩ vn').setCell ⟨g, 2, none⟩ v').heap.size = u'.heap.size := by rw [setCell_size, setCell_size]
  have up : ∀ {e : TypeId} {v : Value} {n : Nat} {xs : List Value}, e ≠ 54 → u'.ownsRow 0 e 1 v n xs → ((u'.setCell ⟨g, 1, none⟩ vn').setCell ⟨g, 2, none⟩ v').ownsRow 0 e 1 v n xs := fun hne ho => ownsRow_same ho (fun k hk => by
    obtain ⟨c2, h2⟩ := ownsRow_block ho hk
    have : k ≠ g := tag_ne h2 hobj hne
    exact (heap_cell_other this).trans (heap_cell_other this))
  have lt : ∀ {e : TypeId} {v : Value} {n : Nat} {xs : List Value}, e ≠ 50 → u.ownsRow 0 e 1 v n xs → u'.ownsRow 0 e 1 v n xs := fun hne ho => ownsRow_same ho (fun k hk => by
    obtain ⟨c2, h2⟩ := ownsRow_block ho hk
    exact hb h2 hne)
  have hC : (writeS s n l).C = s.C ++ [(n, l)] := put_new l hno
  have hlen : (writeS s n l).C.length = s.C.length + 1 := by rw [hC]; simp
  have hkeys : inz (keysC (writeS s n l).C) = inz (keysC s.C) ++ [.int .i64 ((n : Nat) : Int)] := by rw [hC]; simp [inz, keysC]
  have hvl : vs.length = s.C.length := by simpa using h.rows.1
  have hsu := ht.size
  have mor : ∀ k, more S w u k → more S w ((u'.setCell ⟨g, 1, none⟩ vn').setCell ⟨g, 2, none⟩ v') k := fun k hk => hk.elim .inl (fun h => .inr ⟨h.1, by rw [hsz]; omega⟩)
  have htr : Trn S w ((u'.setCell ⟨g, 1, none⟩ vn').setCell ⟨g, 2, none⟩ v') := ((h.trn.trans ht (fun i _ e => F.c i e)).setCell _ (fun _ => F.g)).setCell _ (fun _ => F.g)
  refine ⟨hog, ⟨?_, up (by decide) (lt (by decide) h.img), ?_, ?_, fun j hj hv => ?_⟩, ⟨.inl F.g, .inl F.ib, fun k hk => mor k (h.fn k hk), fun k hk => ?_, fun z hz k hk => ?_, more_lt htr.size F.lt⟩, htr⟩
  · simp [World.setCell, Array.getElem?_modify, hobj]
    exact ⟨rfl, rfl⟩
  · rw [hkeys, hlen]
    have := h.ord
    rw [List.length_append, inz_len, keysC_len] at this
    exact up (by decide) (lt (by decide) this)
  · rw [hlen]
    exact up (by decide) ho
  · by_cases hjl : j < s.C.length
    · have e1 : (vs ++ [x])[j] = vs[j]'(by omega) := List.getElem_append_left (by omega)
      have e2 : (writeS s n l).C[j] = s.C[j] := by simp [hC, hjl]
      rw [e1, e2]
      exact ⟨up (by decide) (lt (by decide) (h.each j hjl (by omega)).1), (h.each j hjl (by omega)).2⟩
    · obtain rfl : j = s.C.length := by omega
      have e1 : (vs ++ [x])[s.C.length] = x := by simp [← hvl]
      have e2 : (writeS s n l).C[s.C.length] = (n, l) := by simp [hC]
      rw [e1, e2]
      exact ⟨up (by decide) (lt (by decide) h.own), h.xib⟩
  · have hlt := ownsRow_lt ho hk
    rcases hw with hw | hw
    · exact .inl (F.c k (hw ▸ hk))
    · rw [hw] at hk
      injection hk with hk
      have := h.trn.size
      exact .inr ⟨by omega, by rw [hsz]; exact hlt⟩
  · rcases List.mem_append.1 hz with hz | hz
    · exact .inl (F.r z hz k hk)
    · obtain rfl : z = x := by simpa using hz
      exact mor k (.inr ⟨hfx k hk, ownsRow_lt h.own hk⟩)
end
def Lit (w u : World) (y z : Value) : Prop := Rowz u y [z] ∧ ∀ k, y.ownBlock = some k → w.heap.size ≤ k
theorem Lit.below {w u u' : World} {y z : Value} (h : Lit w u y z) (hb : Below u.heap.size u u') : Lit w u' y z := ⟨h.1.below hb, h.2⟩
theorem Lit.grow {w u u' : World} {y z : Value} {r : Option Nat} (h : Lit w u y z) (hg : u.grownBy u' r) (hr : ∀ k, r = some k → k < w.heap.size) : Lit w u' y z :=
  ⟨h.1.trn (S := fun i => r = some i) (Trn.of_grown hg (fun i hi => hi)) (fun k hk e => by have := h.2 k hk; have := hr k e; omega), h.2⟩
theorem Lit.new {w u : World} (z : Value) (t : TypeId) (hs : w.heap.size ≤ u.heap.size) : Lit w (u.alloc (.cells #[z] t)) (.slice (some ⟨u.heap.size, 0, none⟩) 1 1) z := by
  refine ⟨⟨_, 1, rfl, by simp, by simp [maxLen], .inr ⟨u.heap.size, 0, rfl, by simp, fun j hj => ?_⟩⟩, fun k hk => by simp [Value.ownBlock] at hk; omega⟩
  obtain rfl : j = 0 := by simp at hj; omega
  rw [cell_of_row _ _ _ _ _ _ (heap_alloc_new u _)]
  rfl
structure Slots (ds : List Deferred) (g : Nat) (nv x : Value) (a : Act) : Prop where
  df : a.defers = ds
  sz : a.tmps.size = 59
  e43 : a.eval (.tmp 43) = .pointer (some ⟨g, 1, none⟩)
  e45 : a.eval (.tmp 45) = nv
  e50 : a.eval (.tmp 50) = .pointer (some ⟨g, 2, none⟩)
  e52 : a.eval (.tmp 52) = x
  e39 : a.eval (.tmp 39) = .pointer (some ⟨g, 0, none⟩)
  e40 : a.eval (.tmp 40) = .pointer (some ⟨g, 0, none⟩)
theorem Slots.put {ds : List Deferred} {g : Nat} {nv x : Value} {a : Act} (h : Slots ds g nv x a) (d : Nat) (v : Value) (hd : (decide (d ∉ [43, 45, 50, 52, 39, 40])) = true) : Slots ds g nv x (a.put (some d) v) := by
  simp at hd
  refine ⟨h.df, by simp [Act.put, h.sz], ?_, ?_, ?_, ?_, ?_, ?_⟩ <;> rw [ev_ne (by omega)]
  · exact h.e43
  · exact h.e45
  · exact h.e50
  · exact h.e52
  · exact h.e39
  · exact h.e40
structure Stt (w : World) (S : Nat → Prop) (g ib ic : Nat) (s : St) (vn vc : Value) (vs : List Value) (x : Value) (l : List UInt8) (n : Nat) (ds : List Deferred) (d5 d7 d12 d14 d8 : Bool) (a : Act) (u : World) : Prop where
  sl : Slots ds g (.int .i64 (n : Int)) x a
  e44 : d5 = true → a.eval (.tmp 44) = vn
  r46 : d7 = true → Lit w u (a.eval (.tmp 46)) (.int .i64 (n : Int))
  e51 : d12 = true → a.eval (.tmp 51) = vc
  r53 : d14 = true → Lit w u (a.eval (.tmp 53)) x
  mid : Mid w u S g ib ic s vn vc vs x l (if d8 then a.eval (.tmp 47) else vn) (if d8 then inz (keysC s.C) ++ [.int .i64 (n : Int)] else inz (keysC s.C))
section
variable {w u : World} {S : Nat → Prop} {g ib ic : Nat} {s : St} {vn vc : Value} {vs : List Value} {x : Value} {l : List UInt8} {n : Nat} {ds : List Deferred} {d5 d7 d12 d14 d8 : Bool} {a : Act} {o : Oper} {K : Act → World → Prop} {Q : Exit → Act → World → Prop}
theorem step5 (h : Stt w S g ib ic s vn vc vs x l n ds false d7 d12 d14 false a u) (ho : o.op = .load 51 (.tmp 43)) (hd : o.dst = some 44) (hK : ∀ a' u', Stt w S g ib ic s vn vc vs x l n ds true d7 d12 d14 false a' u' → K a' u') : o.wp Tryz.prog a u K Q := by
  obtain ⟨dst, op, type, pos, after, guard⟩ := o
  simp only at ho hd
  subst ho hd
  have c1 := (robj_cells h.mid.obj).2.1
  have e0 := h.sl.e43
  have hz := h.sl.sz
  have hk := hK (a.put (some 44) vn) u ⟨h.sl.put _ _ (by decide), fun _ => ev_eq (by omega), fun h7 => by rw [ev_ne (by decide)]; exact h.r46 h7, fun h7 => by rw [ev_ne (by decide)]; exact h.e51 h7, fun h7 => by rw [ev_ne (by decide)]; exact h.r53 h7, h.mid⟩
  clear h hK
  unfold Oper.wp
  generalize a.eval = ρ at *
  go_simp
  exact hk
theorem step12 (h : Stt w S g ib ic s vn vc vs x l n ds d5 d7 false d14 d8 a u) (ho : o.op = .load 52 (.tmp 50)) (hd : o.dst = some 51) (hK : ∀ a' u', Stt w S g ib ic s vn vc vs x l n ds d5 d7 true d14 d8 a' u' → K a' u') : o.wp Tryz.prog a u K Q := by
  obtain ⟨dst, op, type, pos, after, guard⟩ := o
  simp only at ho hd
  subst ho hd
  have c1 := (robj_cells h.mid.obj).2.2.1
  have e0 := h.sl.e50
  have hz := h.sl.sz
  have hk := hK (a.put (some 51) vc) u ⟨h.sl.put _ _ (by decide), fun h7 => by rw [ev_ne (by decide)]; exact h.e44 h7, fun h7 => by rw [ev_ne (by decide)]; exact h.r46 h7, fun _ => ev_eq (by omega), fun h7 => by rw [ev_ne (by decide)]; exact h.r53 h7, by rw [ev_ne (by decide)]; exact h.mid⟩
  clear h hK
  unfold Oper.wp
  generalize a.eval = ρ at *
  go_simp
  exact hk
theorem step7 (h : Stt w S g ib ic s vn vc vs x l n ds d5 false d12 d14 d8 a u) (ho : o.op = .buildSlice 51 1 #[(0, .tmp 45)]) (hd : o.dst = some 46) (hK : ∀ a' u', Stt w S g ib ic s vn vc vs x l n ds d5 true d12 d14 d8 a' u' → K a' u') : o.wp Tryz.prog a u K Q := by
  obtain ⟨dst, op, type, pos, after, guard⟩ := o
  simp only at ho hd
  subst ho hd
  have e0 := h.sl.e45
  have hz := h.sl.sz
  have hb := below_new u (.cells #[.int .i64 (n : Int)] 3)
  have hk := hK (a.put (some 46) (.slice (some ⟨u.heap.size, 0, none⟩) 1 1)) (u.alloc (.cells #[.int .i64 (n : Int)] 3)) ⟨h.sl.put _ _ (by decide), fun h7 => by rw [ev_ne (by decide)]; exact h.e44 h7, fun _ => by rw [ev_eq (by omega)]; exact Lit.new _ _ h.mid.trn.size, fun h7 => by rw [ev_ne (by decide)]; exact h.e51 h7, fun h7 => by rw [ev_ne (by decide)]; exact (h.r53 h7).below hb, by rw [ev_ne (by decide)]; exact h.mid.below hb⟩
  clear h hK hb
  unfold Oper.wp
  generalize a.eval = ρ at *
  go_simp
  exact hk
theorem step14 (h : Stt w S g ib ic s vn vc vs x l n ds d5 d7 d12 false d8 a u) (ho : o.op = .buildSlice 52 1 #[(0, .tmp 52)]) (hd : o.dst = some 53) (hK : ∀ a' u', Stt w S g ib ic s vn vc vs x l n ds d5 d7 d12 true d8 a' u' → K a' u') : o.wp Tryz.prog a u K Q := by
  obtain ⟨dst, op, type, pos, after, guard⟩ := o
  simp only at ho hd
  subst ho hd
  obtain ⟨Ax, nx, cx, rfl, _, _, _⟩ := h.mid.own.byt.form
  have e0 := h.sl.e52
  have hz := h.sl.sz
  have hb := below_new u (.cells #[.slice Ax nx cx] 50)
  have hk := hK (a.put (some 53) (.slice (some ⟨u.heap.size, 0, none⟩) 1 1)) (u.alloc (.cells #[.slice Ax nx cx] 50)) ⟨h.sl.put _ _ (by decide), fun h7 => by rw [ev_ne (by decide)]; exact h.e44 h7, fun h7 => by rw [ev_ne (by decide)]; exact (h.r46 h7).below hb, fun h7 => by rw [ev_ne (by decide)]; exact h.e51 h7, fun _ => by rw [ev_eq (by omega)]; exact Lit.new _ _ h.mid.trn.size, by rw [ev_ne (by decide)]; exact h.mid.below hb⟩
  clear h hK hb
  unfold Oper.wp
  generalize a.eval = ρ at *
  go_simp
  exact hk
theorem step8 (hS : ∀ k, vn.ownBlock = some k → S k) (hlt : ∀ k, S k → k < w.heap.size) (hcnt : s.C.length ≤ 32768) (h : Stt w S g ib ic s vn vc vs x l n ds true true d12 d14 false a u) (ho : o.op = .call { callee := .builtin .append, args := #[.tmp 44, .tmp 46], argTypes := #[51, 51] }) (hd : o.dst = some 47) (hK : ∀ a' u', Stt w S g ib ic s vn vc vs x l n ds true true d12 d14 true a' u' → K a' u') : o.wp Tryz.prog a u K Q := by
  obtain ⟨i0, hi0, hz0, hz1, hz2⟩ := info_parts iinfo
  have hz := h.sl.sz
  have hm : Mid w u S g ib ic s vn vc vs x l vn (inz (keysC s.C)) := h.mid
  have hl : (inz (keysC s.C)).length = s.C.length := by rw [inz_len, keysC_len]
  refine wp_appZ u (.tmp 44) (.tmp 46) _ ho 0 3 i0 _ 8 Tryz.underlying51 hi0 hz0 hz1 hz2 rfl vn _ _ (h.e44 rfl) hm.ord _ [.int .i64 (n : Int)] rfl (h.r46 rfl).1 (fun y hy => by obtain rfl : y = _ := List.mem_singleton.1 hy; rfl) (by rw [hl]; simp; omega) (Nat.zero_le _) ?_
  intro v' u' hown hg hat
  have hr : ∀ k, vn.ownBlock = some k → k < w.heap.size := fun k hk => hlt k (hS k hk)
  rw [hd]
  exact hK _ _ ⟨h.sl.put _ _ (by decide), fun h7 => by rw [ev_ne (by decide)]; exact h.e44 h7, fun h7 => by rw [ev_ne (by decide)]; exact (h.r46 h7).grow hg hr, fun h7 => by rw [ev_ne (by decide)]; exact h.e51 h7, fun h7 => by rw [ev_ne (by decide)]; exact (h.r53 h7).grow hg hr, by rw [ev_eq (by omega)]; exact hm.grow hS hg hown hat⟩
end
/-- What is left behind both appends. -/
structure Aft (w : World) (S : Nat → Prop) (g ib ic : Nat) (s : St) (vn vc : Value) (vs : List Value) (x : Value) (l : List UInt8) (n : Nat) (ds : List Deferred) (v47 v54 : Value) (a : Act) (u : World) : Prop where
  sl : Slots ds g (.int .i64 (n : Int)) x a
  e47 : a.eval (.tmp 47) = v47
  e54 : a.eval (.tmp 54) = v54
  obj : u.heap[g]? = some (.cells #[.slice (some ⟨ib, 0, none⟩) s.B.length ic, vn, vc, .int .i64 (fuseI s.F)] 54 (0, 0))
  ref : RefAt ((u.setCell ⟨g, 1, none⟩ v47).setCell ⟨g, 2, none⟩ v54) g (writeS s n l) ib ic v47 v54 (vs ++ [x])
  foot : RFoot (more S w ((u.setCell ⟨g, 1, none⟩ v47).setCell ⟨g, 2, none⟩ v54)) ((u.setCell ⟨g, 1, none⟩ v47).setCell ⟨g, 2, none⟩ v54) g ib v47 v54 (vs ++ [x])
  trn : Trn S w ((u.setCell ⟨g, 1, none⟩ v47).setCell ⟨g, 2, none⟩ v54)
section
variable {w u : World} {S : Nat → Prop} {g ib ic : Nat} {s : St} {vn vc : Value} {vs : List Value} {x : Value} {l : List UInt8} {n : Nat} {ds : List Deferred} {a : Act} {o : Oper} {K : Act → World → Prop} {Q : Exit → Act → World → Prop}
theorem step15 (F : RFoot S w g ib vn vc vs) (hfx : ∀ k, x.ownBlock = some k → w.heap.size ≤ k) (hno : lookC s.C n = none) (hcnt : s.C.length ≤ 32768) (h : Stt w S g ib ic s vn vc vs x l n ds true true true true true a u) (ho : o.op = .call { callee := .builtin .append, args := #[.tmp 51, .tmp 53], argTypes := #[52, 52] }) (hd : o.dst = some 54)
    (hK : ∀ v47 v54 a' u', Aft w S g ib ic s vn vc vs x l n ds v47 v54 a' u' → K a' u') : o.wp Tryz.prog a u K Q := by
  obtain ⟨i0, hi0, hz0, hz1, hz2⟩ := info_parts sinfo
  have hz := h.sl.sz
  have hm : Mid w u S g ib ic s vn vc vs x l (a.eval (.tmp 47)) (inz (keysC s.C) ++ [.int .i64 (n : Int)]) := h.mid
  have hx1 : x.oneCell' = true := by
    obtain ⟨Ax, nx, cx, rfl, _, _, _⟩ := hm.own.byt.form
    rfl
  refine wp_appZ u (.tmp 51) (.tmp 53) _ ho 0 50 i0 _ 24 Tryz.underlying52 hi0 hz0 hz1 hz2 rfl vc _ _ (h.e51 rfl) hm.rows _ [x] rfl (h.r53 rfl).1 (fun y hy => by obtain rfl : y = _ := List.mem_singleton.1 hy; exact hx1) (by simp; omega) (Nat.zero_le _) ?_
  intro v' u' hown hg hat
  obtain ⟨f1, f2, f3, f4⟩ := hm.fin F hfx hno hg hown hat
  rw [hd]
  exact hK _ v' _ _ ⟨h.sl.put _ _ (by decide), ev_ne (by decide), ev_eq (by omega), f1.trans hm.obj, f2, f3, f4⟩
theorem Aft.put {v47 v54 : Value} (h : Aft w S g ib ic s vn vc vs x l n ds v47 v54 a u) (d : Nat) (v : Value) (hd : (decide (d ∉ [43, 45, 50, 52, 39, 40])) = true) (h1 : d ≠ 47) (h2 : d ≠ 54) : Aft w S g ib ic s vn vc vs x l n ds v47 v54 (a.put (some d) v) u :=
  ⟨h.sl.put d v hd, (ev_ne h1).trans h.e47, (ev_ne h2).trans h.e54, h.obj, h.ref, h.foot, h.trn⟩
theorem step16 {t d : Nat} {y : Addr} (e0 : a.eval (.tmp t) = .pointer (some y)) (ho : o.op = .nilCheck (.tmp t)) (hd : o.dst = some d) (hK : K (a.put (some d) (.pointer (some y))) u) : o.wp Tryz.prog a u K Q := by
  obtain ⟨dst, op, type, pos, after, guard⟩ := o
  simp only at ho hd
  subst ho hd
  unfold Oper.wp
  generalize a.eval = ρ at *
  go_simp
  exact hK
theorem step17 {t d k : Nat} (hk : k = 1 ∨ k = 2) (e0 : a.eval (.tmp t) = .pointer (some ⟨g, 0, none⟩)) (ho : o.op = .fieldAddr 54 (.tmp t) k) (hd : o.dst = some d) (hK : K (a.put (some d) (.pointer (some ⟨g, k, none⟩))) u) : o.wp Tryz.prog a u K Q := by
  rcases hk with rfl | rfl
  · obtain ⟨dst, op, type, pos, after, guard⟩ := o
    simp only at ho hd
    subst ho hd
    unfold Oper.wp
    generalize a.eval = ρ at *
    go_simp
    exact hK
  · obtain ⟨dst, op, type, pos, after, guard⟩ := o
    simp only at ho hd
    subst ho hd
    unfold Oper.wp
    generalize a.eval = ρ at *
    go_simp
    exact hK
theorem step18 {v47 v54 : Value} (h : Aft w S g ib ic s vn vc vs x l n ds v47 v54 a u) (e0 : a.eval (.tmp 56) = .pointer (some ⟨g, 1, none⟩)) (ho : o.op = .store 51 (.tmp 56) (.tmp 47)) (hd : o.dst = none) (hK : K a (u.setCell ⟨g, 1, none⟩ v47)) : o.wp Tryz.prog a u K Q := by
  obtain ⟨dst, op, type, pos, after, guard⟩ := o
  simp only at ho hd
  subst ho hd
  obtain ⟨Av, nv, cv, rfl, _, _, _⟩ := (ints_rowz h.ref.ord).form
  obtain ⟨_, c1, _, _, z1, _, _⟩ := robj_cells h.obj
  have e1 := h.e47
  clear h
  unfold Oper.wp
  generalize a.eval = ρ at *
  go_simp
  exact hK
theorem step21 {v47 v54 : Value} (h : Aft w S g ib ic s vn vc vs x l n ds v47 v54 a u) (e0 : a.eval (.tmp 58) = .pointer (some ⟨g, 2, none⟩)) (ho : o.op = .store 52 (.tmp 58) (.tmp 54)) (hd : o.dst = none) (hK : K a ((u.setCell ⟨g, 1, none⟩ v47).setCell ⟨g, 2, none⟩ v54)) : o.wp Tryz.prog a (u.setCell ⟨g, 1, none⟩ v47) K Q := by
  obtain ⟨dst, op, type, pos, after, guard⟩ := o
  simp only at ho hd
  subst ho hd
  have hrz : Rowz _ v54 (vs ++ [x]) := OwnR.rowz (by have := h.ref.rows; rw [← h.ref.len] at this; exact this)
  obtain ⟨Av, nv, cv, rfl, _, _, _⟩ := hrz.form
  have hobj : (u.setCell ⟨g, 1, none⟩ v47).heap[g]? = some (.cells #[.slice (some ⟨ib, 0, none⟩) s.B.length ic, v47, vc, .int .i64 (fuseI s.F)] 54 (0, 0)) := by
    have := h.obj
    simp [World.setCell, Array.getElem?_modify, this]
  obtain ⟨_, _, c1, _, _, z1, _⟩ := robj_cells hobj
  have e1 := h.e54
  clear h hobj hrz
  generalize u.setCell ⟨g, 1, none⟩ v47 = u1 at *
  unfold Oper.wp
  generalize a.eval = ρ at *
  go_simp
  exact hK
end
def lst (d5 d7 d12 d14 d8 d15 d16 d17 d18 d19 d20 d21 : Bool) : Array Bool := #[true, true, true, true, true, d5, true, d7, d8, true, true, true, d12, true, d14, d15, d16, d17, d18, d19, d20, d21]
def rdy (d5 d7 d12 d14 d8 : Bool) : List Nat := (if d5 then [] else [5]) ++ ((if d7 then [] else [7]) ++ ((if d5 && d7 && !d8 then [8] else []) ++ ((if d12 then [] else [12]) ++ ((if d14 then [] else [14]) ++ (if d12 && d14 && d8 then [15] else [])))))
def left (d : Bool) : Nat := if d then 0 else 1
theorem lst_5 {d5 d7 d12 d14 d8 d15 d16 d17 d18 d19 d20 d21 : Bool} : (lst d5 d7 d12 d14 d8 d15 d16 d17 d18 d19 d20 d21).setIfInBounds 5 true = lst true d7 d12 d14 d8 d15 d16 d17 d18 d19 d20 d21 := rfl
theorem lst_7 {d5 d7 d12 d14 d8 d15 d16 d17 d18 d19 d20 d21 : Bool} : (lst d5 d7 d12 d14 d8 d15 d16 d17 d18 d19 d20 d21).setIfInBounds 7 true = lst d5 true d12 d14 d8 d15 d16 d17 d18 d19 d20 d21 := rfl
theorem lst_12 {d5 d7 d12 d14 d8 d15 d16 d17 d18 d19 d20 d21 : Bool} : (lst d5 d7 d12 d14 d8 d15 d16 d17 d18 d19 d20 d21).setIfInBounds 12 true = lst d5 d7 true d14 d8 d15 d16 d17 d18 d19 d20 d21 := rfl
theorem lst_14 {d5 d7 d12 d14 d8 d15 d16 d17 d18 d19 d20 d21 : Bool} : (lst d5 d7 d12 d14 d8 d15 d16 d17 d18 d19 d20 d21).setIfInBounds 14 true = lst d5 d7 d12 true d8 d15 d16 d17 d18 d19 d20 d21 := rfl
theorem lst_8 {d5 d7 d12 d14 d8 d15 d16 d17 d18 d19 d20 d21 : Bool} : (lst d5 d7 d12 d14 d8 d15 d16 d17 d18 d19 d20 d21).setIfInBounds 8 true = lst d5 d7 d12 d14 true d15 d16 d17 d18 d19 d20 d21 := rfl
theorem lst_15 {d5 d7 d12 d14 d8 d15 d16 d17 d18 d19 d20 d21 : Bool} : (lst d5 d7 d12 d14 d8 d15 d16 d17 d18 d19 d20 d21).setIfInBounds 15 true = lst d5 d7 d12 d14 d8 true d16 d17 d18 d19 d20 d21 := rfl
theorem lst_16 {d5 d7 d12 d14 d8 d15 d16 d17 d18 d19 d20 d21 : Bool} : (lst d5 d7 d12 d14 d8 d15 d16 d17 d18 d19 d20 d21).setIfInBounds 16 true = lst d5 d7 d12 d14 d8 d15 true d17 d18 d19 d20 d21 := rfl
theorem lst_17 {d5 d7 d12 d14 d8 d15 d16 d17 d18 d19 d20 d21 : Bool} : (lst d5 d7 d12 d14 d8 d15 d16 d17 d18 d19 d20 d21).setIfInBounds 17 true = lst d5 d7 d12 d14 d8 d15 d16 true d18 d19 d20 d21 := rfl
theorem lst_18 {d5 d7 d12 d14 d8 d15 d16 d17 d18 d19 d20 d21 : Bool} : (lst d5 d7 d12 d14 d8 d15 d16 d17 d18 d19 d20 d21).setIfInBounds 18 true = lst d5 d7 d12 d14 d8 d15 d16 d17 true d19 d20 d21 := rfl
theorem lst_19 {d5 d7 d12 d14 d8 d15 d16 d17 d18 d19 d20 d21 : Bool} : (lst d5 d7 d12 d14 d8 d15 d16 d17 d18 d19 d20 d21).setIfInBounds 19 true = lst d5 d7 d12 d14 d8 d15 d16 d17 d18 true d20 d21 := rfl
theorem lst_20 {d5 d7 d12 d14 d8 d15 d16 d17 d18 d19 d20 d21 : Bool} : (lst d5 d7 d12 d14 d8 d15 d16 d17 d18 d19 d20 d21).setIfInBounds 20 true = lst d5 d7 d12 d14 d8 d15 d16 d17 d18 d19 true d21 := rfl
theorem lst_21 {d5 d7 d12 d14 d8 d15 d16 d17 d18 d19 d20 d21 : Bool} : (lst d5 d7 d12 d14 d8 d15 d16 d17 d18 d19 d20 d21).setIfInBounds 21 true = lst d5 d7 d12 d14 d8 d15 d16 d17 d18 d19 d20 true := rfl
section
variable {w : World} {S : Nat → Prop} {g ib ic : Nat} {s : St} {vn vc : Value} {vs : List Value} {x : Value} {l : List UInt8} {n : Nat} {ds : List Deferred} {Q : Exit → Act → World → Prop} {ops : Array Oper}
theorem sr21 (hend : ∀ a u v47 v54, a.defers = ds → a.tmps.size = 59 → RefAt u g (writeS s n l) ib ic v47 v54 (vs ++ [x]) → RFoot (more S w u) u g ib v47 v54 (vs ++ [x]) → Trn S w u → Q .normal a u) (h21 : OpAt ops 21 (.store 52 (.tmp 58) (.tmp 54)) (none)) (c22 : Region.ready .any ops (lst true true true true true true true true true true true true) = []) (c21 : Region.ready .any ops (lst true true true true true true true true true true true false) = [21]) {v47 v54 : Value} {a : Act} {u : World} (h : Aft w S g ib ic s vn vc vs x l n ds v47 v54 a u) (e : a.eval (.tmp 58) = .pointer (some ⟨g, 2, none⟩)) : wpAny Tryz.prog .any ops Q 1 (lst true true true true true true true true true true true false) a (u.setCell ⟨g, 1, none⟩ v47) :=
  one_op c21 (h21.wp (fun _ q r => step21 h e q r (lst_21 ▸ wpAny_done c22 (hend _ _ _ _ h.sl.df h.sl.sz h.ref h.foot h.trn) 0)))
theorem sr20 (hend : ∀ a u v47 v54, a.defers = ds → a.tmps.size = 59 → RefAt u g (writeS s n l) ib ic v47 v54 (vs ++ [x]) → RFoot (more S w u) u g ib v47 v54 (vs ++ [x]) → Trn S w u → Q .normal a u) (h21 : OpAt ops 21 (.store 52 (.tmp 58) (.tmp 54)) (none)) (h20 : OpAt ops 20 (.fieldAddr 54 (.tmp 57) 2) (some 58)) (c22 : Region.ready .any ops (lst true true true true true true true true true true true true) = []) (c21 : Region.ready .any ops (lst true true true true true true true true true true true false) = [21]) (c20 : Region.ready .any ops (lst true true true true true true true true true true false false) = [20]) {v47 v54 : Value} {a : Act} {u : World} (h : Aft w S g ib ic s vn vc vs x l n ds v47 v54 a u) (e : a.eval (.tmp 57) = .pointer (some ⟨g, 0, none⟩)) : wpAny Tryz.prog .any ops Q 2 (lst true true true true true true true true true true false false) a (u.setCell ⟨g, 1, none⟩ v47) :=
  one_op c20 (h20.wp (fun _ q r => step17 (.inr rfl) e q r (lst_20 ▸ sr21 hend h21 c22 c21 (h.put 58 _ (by decide) (by decide) (by decide)) (ev_eq (by rw [h.sl.sz]; decide)))))
theorem sr19 (hend : ∀ a u v47 v54, a.defers = ds → a.tmps.size = 59 → RefAt u g (writeS s n l) ib ic v47 v54 (vs ++ [x]) → RFoot (more S w u) u g ib v47 v54 (vs ++ [x]) → Trn S w u → Q .normal a u) (h21 : OpAt ops 21 (.store 52 (.tmp 58) (.tmp 54)) (none)) (h20 : OpAt ops 20 (.fieldAddr 54 (.tmp 57) 2) (some 58)) (h19 : OpAt ops 19 (.nilCheck (.tmp 40)) (some 57)) (c22 : Region.ready .any ops (lst true true true true true true true true true true true true) = []) (c21 : Region.ready .any ops (lst true true true true true true true true true true true false) = [21]) (c20 : Region.ready .any ops (lst true true true true true true true true true true false false) = [20]) (c19 : Region.ready .any ops (lst true true true true true true true true true false false false) = [19]) {v47 v54 : Value} {a : Act} {u : World} (h : Aft w S g ib ic s vn vc vs x l n ds v47 v54 a u) : wpAny Tryz.prog .any ops Q 3 (lst true true true true true true true true true false false false) a (u.setCell ⟨g, 1, none⟩ v47) :=
  one_op c19 (h19.wp (fun _ q r => step16 h.sl.e40 q r (lst_19 ▸ sr20 hend h21 h20 c22 c21 c20 (h.put 57 _ (by decide) (by decide) (by decide)) (ev_eq (by rw [h.sl.sz]; decide)))))
theorem sr18 (hend : ∀ a u v47 v54, a.defers = ds → a.tmps.size = 59 → RefAt u g (writeS s n l) ib ic v47 v54 (vs ++ [x]) → RFoot (more S w u) u g ib v47 v54 (vs ++ [x]) → Trn S w u → Q .normal a u) (h21 : OpAt ops 21 (.store 52 (.tmp 58) (.tmp 54)) (none)) (h20 : OpAt ops 20 (.fieldAddr 54 (.tmp 57) 2) (some 58)) (h19 : OpAt ops 19 (.nilCheck (.tmp 40)) (some 57)) (h18 : OpAt ops 18 (.store 51 (.tmp 56) (.tmp 47)) (none)) (c22 : Region.ready .any ops (lst true true true true true true true true true true true true) = []) (c21 : Region.ready .any ops (lst true true true true true true true true true true true false) = [21]) (c20 : Region.ready .any ops (lst true true true true true true true true true true false false) = [20]) (c19 : Region.ready .any ops (lst true true true true true true true true true false false false) = [19]) (c18 : Region.ready .any ops (lst true true true true true true true true false false false false) = [18]) {v47 v54 : Value} {a : Act} {u : World} (h : Aft w S g ib ic s vn vc vs x l n ds v47 v54 a u) (e : a.eval (.tmp 56) = .pointer (some ⟨g, 1, none⟩)) : wpAny Tryz.prog .any ops Q 4 (lst true true true true true true true true false false false false) a u :=
  one_op c18 (h18.wp (fun _ q r => step18 h e q r (lst_18 ▸ sr19 hend h21 h20 h19 c22 c21 c20 c19 h)))
theorem sr17 (hend : ∀ a u v47 v54, a.defers = ds → a.tmps.size = 59 → RefAt u g (writeS s n l) ib ic v47 v54 (vs ++ [x]) → RFoot (more S w u) u g ib v47 v54 (vs ++ [x]) → Trn S w u → Q .normal a u) (h21 : OpAt ops 21 (.store 52 (.tmp 58) (.tmp 54)) (none)) (h20 : OpAt ops 20 (.fieldAddr 54 (.tmp 57) 2) (some 58)) (h19 : OpAt ops 19 (.nilCheck (.tmp 40)) (some 57)) (h18 : OpAt ops 18 (.store 51 (.tmp 56) (.tmp 47)) (none)) (h17 : OpAt ops 17 (.fieldAddr 54 (.tmp 55) 1) (some 56)) (c22 : Region.ready .any ops (lst true true true true true true true true true true true true) = []) (c21 : Region.ready .any ops (lst true true true true true true true true true true true false) = [21]) (c20 : Region.ready .any ops (lst true true true true true true true true true true false false) = [20]) (c19 : Region.ready .any ops (lst true true true true true true true true true false false false) = [19]) (c18 : Region.ready .any ops (lst true true true true true true true true false false false false) = [18]) (c17 : Region.ready .any ops (lst true true true true true true true false false false false false) = [17]) {v47 v54 : Value} {a : Act} {u : World} (h : Aft w S g ib ic s vn vc vs x l n ds v47 v54 a u) (e : a.eval (.tmp 55) = .pointer (some ⟨g, 0, none⟩)) : wpAny Tryz.prog .any ops Q 5 (lst true true true true true true true false false false false false) a u :=
  one_op c17 (h17.wp (fun _ q r => step17 (.inl rfl) e q r (lst_17 ▸ sr18 hend h21 h20 h19 h18 c22 c21 c20 c19 c18 (h.put 56 _ (by decide) (by decide) (by decide)) (ev_eq (by rw [h.sl.sz]; decide)))))
theorem sr16 (hend : ∀ a u v47 v54, a.defers = ds → a.tmps.size = 59 → RefAt u g (writeS s n l) ib ic v47 v54 (vs ++ [x]) → RFoot (more S w u) u g ib v47 v54 (vs ++ [x]) → Trn S w u → Q .normal a u) (h21 : OpAt ops 21 (.store 52 (.tmp 58) (.tmp 54)) (none)) (h20 : OpAt ops 20 (.fieldAddr 54 (.tmp 57) 2) (some 58)) (h19 : OpAt ops 19 (.nilCheck (.tmp 40)) (some 57)) (h18 : OpAt ops 18 (.store 51 (.tmp 56) (.tmp 47)) (none)) (h17 : OpAt ops 17 (.fieldAddr 54 (.tmp 55) 1) (some 56)) (h16 : OpAt ops 16 (.nilCheck (.tmp 39)) (some 55)) (c22 : Region.ready .any ops (lst true true true true true true true true true true true true) = []) (c21 : Region.ready .any ops (lst true true true true true true true true true true true false) = [21]) (c20 : Region.ready .any ops (lst true true true true true true true true true true false false) = [20]) (c19 : Region.ready .any ops (lst true true true true true true true true true false false false) = [19]) (c18 : Region.ready .any ops (lst true true true true true true true true false false false false) = [18]) (c17 : Region.ready .any ops (lst true true true true true true true false false false false false) = [17]) (c16 : Region.ready .any ops (lst true true true true true true false false false false false false) = [16]) {v47 v54 : Value} {a : Act} {u : World} (h : Aft w S g ib ic s vn vc vs x l n ds v47 v54 a u) : wpAny Tryz.prog .any ops Q 6 (lst true true true true true true false false false false false false) a u :=
  one_op c16 (h16.wp (fun _ q r => step16 h.sl.e39 q r (lst_16 ▸ sr17 hend h21 h20 h19 h18 h17 c22 c21 c20 c19 c18 c17 (h.put 55 _ (by decide) (by decide) (by decide)) (ev_eq (by rw [h.sl.sz]; decide)))))
theorem reg10 (hend : ∀ a u v47 v54, a.defers = ds → a.tmps.size = 59 → RefAt u g (writeS s n l) ib ic v47 v54 (vs ++ [x]) → RFoot (more S w u) u g ib v47 v54 (vs ++ [x]) → Trn S w u → Q .normal a u) (h5 : OpAt ops 5 (.load 51 (.tmp 43)) (some 44))  (h7 : OpAt ops 7 (.buildSlice 51 1 #[(0, .tmp 45)]) (some 46))  (h8 : OpAt ops 8 (.call { callee := .builtin .append, args := #[.tmp 44, .tmp 46], argTypes := #[51, 51] }) (some 47))  (h12 : OpAt ops 12 (.load 52 (.tmp 50)) (some 51))  (h14 : OpAt ops 14 (.buildSlice 52 1 #[(0, .tmp 52)]) (some 53))  (h15 : OpAt ops 15 (.call { callee := .builtin .append, args := #[.tmp 51, .tmp 53], argTypes := #[52, 52] }) (some 54))  (h21 : OpAt ops 21 (.store 52 (.tmp 58) (.tmp 54)) (none)) (h20 : OpAt ops 20 (.fieldAddr 54 (.tmp 57) 2) (some 58)) (h19 : OpAt ops 19 (.nilCheck (.tmp 40)) (some 57)) (h18 : OpAt ops 18 (.store 51 (.tmp 56) (.tmp 47)) (none)) (h17 : OpAt ops 17 (.fieldAddr 54 (.tmp 55) 1) (some 56)) (h16 : OpAt ops 16 (.nilCheck (.tmp 39)) (some 55)) (c22 : Region.ready .any ops (lst true true true true true true true true true true true true) = []) (c21 : Region.ready .any ops (lst true true true true true true true true true true true false) = [21]) (c20 : Region.ready .any ops (lst true true true true true true true true true true false false) = [20]) (c19 : Region.ready .any ops (lst true true true true true true true true true false false false) = [19]) (c18 : Region.ready .any ops (lst true true true true true true true true false false false false) = [18]) (c17 : Region.ready .any ops (lst true true true true true true true false false false false false) = [17]) (c16 : Region.ready .any ops (lst true true true true true true false false false false false false) = [16])
    (hr : ∀ d5 d7 d12 d14 d8, (d8 = true → d5 = true ∧ d7 = true) → Region.ready .any ops (lst d5 d7 d12 d14 d8 false false false false false false false) = rdy d5 d7 d12 d14 d8)
    (F : RFoot S w g ib vn vc vs) (hfx : ∀ k, x.ownBlock = some k → w.heap.size ≤ k) (hno : lookC s.C n = none) (hcnt : s.C.length ≤ 32768) :
    ∀ a u, Stt w S g ib ic s vn vc vs x l n ds false false false false false a u → wpAny Tryz.prog .any ops Q 12 (lst false false false false false false false false false false false false) a u := by
  intro a u h
  refine mach (I := fun k L a u => ∃ d5 d7 d12 d14 d8, k = 7 + left d5 + left d7 + left d12 + left d14 + left d8 ∧ L = lst d5 d7 d12 d14 d8 false false false false false false false ∧ (d8 = true → d5 = true ∧ d7 = true) ∧ Stt w S g ib ic s vn vc vs x l n ds d5 d7 d12 d14 d8 a u) ?_ 12 _ a u ⟨false, false, false, false, false, rfl, rfl, fun h => (by cases h), h⟩
  clear h a u
  rintro k L a u ⟨d5, d7, d12, d14, d8, rfl, rfl, hv, h⟩
  refine ⟨6 + left d5 + left d7 + left d12 + left d14 + left d8, _, by omega, hr d5 d7 d12 d14 d8 hv, ?_, fun i hi => ?_⟩
  · cases d5 <;> cases d7 <;> cases d12 <;> cases d14 <;> cases d8 <;> simp_all [rdy]
  · unfold rdy at hi
    rcases List.mem_append.1 hi with hi | hi
    · cases d5 <;> simp at hi
      subst hi
      obtain rfl : d8 = false := by cases d8 <;> simp_all
      refine h5.wp (fun _ q r => step5 h q r (fun a' u' h' => .inl ⟨true, d7, d12, d14, false, ?_, lst_5, fun h => (by cases h), h'⟩))
      show 6 + 1 + _ + _ + _ + _ = 7 + 0 + _ + _ + _ + _
      omega
    rcases List.mem_append.1 hi with hi | hi
    · cases d7 <;> simp at hi
      subst hi
      obtain rfl : d8 = false := by cases d8 <;> simp_all
      refine h7.wp (fun _ q r => step7 h q r (fun a' u' h' => .inl ⟨d5, true, d12, d14, false, ?_, lst_7, fun h => (by cases h), h'⟩))
      show 6 + _ + 1 + _ + _ + _ = 7 + _ + 0 + _ + _ + _
      omega
    rcases List.mem_append.1 hi with hi | hi
    · cases d5 <;> cases d7 <;> cases d8 <;> simp at hi
      subst hi
      refine h8.wp (fun _ q r => step8 F.n F.lt hcnt h q r (fun a' u' h' => .inl ⟨true, true, d12, d14, true, ?_, lst_8, fun _ => ⟨rfl, rfl⟩, h'⟩))
      show 6 + 0 + 0 + _ + _ + 1 = 7 + 0 + 0 + _ + _ + 0
      omega
    rcases List.mem_append.1 hi with hi | hi
    · cases d12 <;> simp at hi
      subst hi
      refine h12.wp (fun _ q r => step12 h q r (fun a' u' h' => .inl ⟨d5, d7, true, d14, d8, ?_, lst_12, hv, h'⟩))
      show 6 + _ + _ + 1 + _ + _ = 7 + _ + _ + 0 + _ + _
      omega
    rcases List.mem_append.1 hi with hi | hi
    · cases d14 <;> simp at hi
      subst hi
      refine h14.wp (fun _ q r => step14 h q r (fun a' u' h' => .inl ⟨d5, d7, d12, true, d8, ?_, lst_14, hv, h'⟩))
      show 6 + _ + _ + _ + 1 + _ = 7 + _ + _ + _ + 0 + _
      omega
    · cases d12 <;> cases d14 <;> cases d8 <;> simp at hi
      subst hi
      obtain ⟨rfl, rfl⟩ := hv rfl
      exact h15.wp (fun _ q r => step15 F hfx hno hcnt h q r (fun v47 v54 a' u' h' => .inr (lst_15 ▸ sr16 hend h21 h20 h19 h18 h17 h16 c22 c21 c20 c19 c18 c17 c16 h')))
end
end Go.Proofs.YteeljcnmgfjcmaaGreatDoor

/-
  The document's disk (tallymanref04): Write by its contract. Conditions: none but that the disk lies there, and what is handed in apart from it.
-/
namespace Go.Proofs.YteeljcnmgfjcmaaGreatDoor
open Go.RowKit Go.Maps
set_option maxRecDepth 100000

/-- A row of the cache set anew, in its place. -/
theorem put_at {C : Cch} (hd : (keysC C).Nodup) {j : Nat} (hj : j < C.length) (l : List UInt8) : putC C C[j].1 l = C.set j (C[j].1, l) := by
  induction C generalizing j with
  | nil => simp at hj
  | cons y C ih =>
    obtain ⟨a, z⟩ := y
    have hd' : a ∉ keysC C ∧ (keysC C).Nodup := List.nodup_cons.1 hd
    cases j with
    | zero => simp [putC]
    | succ j =>
      have hj' : j < C.length := by simpa using hj
      have hmem : C[j].1 ∈ keysC C := List.mem_map_of_mem (List.getElem_mem hj')
      show putC ((a, z) :: C) C[j].1 l = (a, z) :: C.set j (C[j].1, l)
      unfold putC
      rw [if_neg (fun e : a = C[j].1 => hd'.1 (e ▸ hmem)), ih hd'.2 hj']
theorem RefAt.setRow {w : World} {g ib ic : Nat} {s : St} {vn : Value} {vs : List Value} {cb cc j : Nat} {v : Value} {l : List UInt8} (h : RefAt w g s ib ic vn (.slice (some ⟨cb, 0, none⟩) s.C.length cc) vs) (ok : OkSt s) (hj : j < s.C.length) (hv : Own w 0 5 v l) (hne : v.ownBlock ≠ some ib) :
    RefAt (w.setCell ⟨cb, j, none⟩ v) g (writeS s s.C[j].1 l) ib ic vn (.slice (some ⟨cb, 0, none⟩) s.C.length cc) (vs.set j v) := by
  have hC : (writeS s s.C[j].1 l).C = s.C.set j (s.C[j].1, l) := put_at ok.once hj l
  have hkeys : keysC (writeS s s.C[j].1 l).C = keysC s.C := put_has l (lookC_at ok.once j hj)
  have hlen : (writeS s s.C[j].1 l).C.length = s.C.length := by rw [hC, List.length_set]
  have hcb := h.c_g (k := cb) rfl
  have hg : ∀ k, k ≠ cb → (w.setCell ⟨cb, j, none⟩ v).heap[k]? = w.heap[k]? := fun k hk => heap_cell_other hk
  have hvl := h.len
  refine ⟨(hg g (Ne.symm hcb.1)).trans h.obj, ownsRow_same h.img (fun k hk => hg k ?_), ?_, ?_, fun i hi hiv => ?_⟩
  · simp [Value.ownBlock] at hk
    exact hk ▸ Ne.symm hcb.2
  · rw [hkeys, hlen]
    exact ownsRow_same h.ord (fun k hk => hg k (fun e => h.c_n (k := cb) rfl (e ▸ hk)))
  · rw [hlen]
    exact (h.rows.stored j v).1
  · have hi' : i < s.C.length := by rw [hlen] at hi; exact hi
    have hiv' : i < vs.length := by omega
    obtain ⟨cur, hc⟩ := ownsRow_block h.rows (k := cb) rfl
    by_cases e : i = j
    · subst e
      have e1 : (vs.set i v)[i] = v := by simp
      have e2 : (writeS s s.C[i].1 l).C[i].2 = l := by simp [hC]
      rw [e1, e2]
      refine ⟨ownsRow_same hv (fun k hk => hg k ?_), hne⟩
      obtain ⟨cur', hc'⟩ := ownsRow_block hv hk
      exact tag_ne hc' hc (by decide)
    · have e1 : (vs.set j v)[i] = vs[i] := by simp [Ne.symm e]
      have e2 : (writeS s s.C[j].1 l).C[i].2 = s.C[i].2 := by simp [hC, Ne.symm e]
      rw [e1, e2]
      refine ⟨ownsRow_same (h.each i hi' hiv').1 (fun k hk => hg k ?_), (h.each i hi' hiv').2⟩
      rintro rfl
      exact (h.r_tag hi' hiv' hk).2.2.2 rfl

theorem look_none {C : Cch} {n : Nat} (h : ∀ j (hj : j < C.length), C[j].1 ≠ n) : lookC C n = none := by
  cases e : lookC C n with
  | none => rfl
  | some r =>
    exfalso
    induction C with
    | nil => cases e
    | cons y C ih =>
      unfold lookC at e
      have h0 : y.1 ≠ n := h 0 (by simp)
      rw [if_neg h0] at e
      exact ih (fun j hj => h (j + 1) (by simpa using hj)) e
theorem rwrite_bad (w : World) (S : Nat → Prop) (g : Nat) (s : St) (x : Int) (v : Value) (l : List UInt8) (h : Ref w S g s) (hv : Byt w v l) (hx : ¬ ((0 ≤ x ∧ x < ((secs s : Nat) : Int)) ∧ l.length = 512)) :
    Calls Tryz.prog 50 #[.pointer (some ⟨g, 0, none⟩), .int .i64 x, v] w (RDone w S g (writeR s x l)) := by
  have HS := Lib.hid (rsectors_is w S g s h)
  have H := Lib.hid h
  have HR : Hid (writeR s x l = (2, s)) := by rw [Hid]; unfold writeR; rw [if_neg hx]
  obtain ⟨A, n, c, rfl, N, hnc, hcm⟩ := hv.form
  clear h hv
  by_cases h0 : x < 0
  · clear hx
    go_enter Tryz.func50, Tryz.ntmps50
    go_wp2_with fail
    go_ret
    rw [HR.out]
    exact ⟨rfl, H.out.more (Nat.le_refl _) H.out.lt, Trn.refl _ _⟩
  · by_cases h1 : ((secs s : Nat) : Int) ≤ x
    · clear hx
      generalize secs s = sec at *
      go_enter Tryz.func50, Tryz.ntmps50
      go_wp2_with fail
      refine HS.out.mono ?_
      rintro e w1 ⟨rfl, rfl⟩
      go_wp2_with fail
      go_ret
      rw [HR.out]
      exact ⟨rfl, H.out.more (Nat.le_refl _) H.out.lt, Trn.refl _ _⟩
    · have hl : ((n : Int) == 512) = false := by have := N.out; simp; omega
      have hl2 : ((n : Int) != 512) = true := by simp only [bne, hl]; rfl
      clear hx
      generalize secs s = sec at *
      go_enter Tryz.func50, Tryz.ntmps50
      go_wp2_with fail
      refine HS.out.mono ?_
      rintro e w1 ⟨rfl, rfl⟩
      go_wp2_with fail
      go_ret
      rw [HR.out]
      exact ⟨rfl, H.out.more (Nat.le_refl _) H.out.lt, Trn.refl _ _⟩
set_option maxRecDepth 100000 in
set_option maxHeartbeats 4000000 in
theorem rwrite_ok (w : World) (S : Nat → Prop) (g : Nat) (s : St) (n : Nat) (v : Value) (l : List UInt8) (h : Ref w S g s) (hv : Byt w v l) (hne : ∀ k, v.ownBlock = some k → ¬ S k) (hn : n < secs s) (hl : l.length = 512) :
    Calls Tryz.prog 50 #[.pointer (some ⟨g, 0, none⟩), .int .i64 (n : Int), v] w (RDone w S g (writeR s (n : Int) l)) := by
  obtain ⟨i0, hi0, hz0, hz1, hz2⟩ := info_parts uinfo
  have HS := Lib.hid (rsectors_is w S g s h)
  have HF := Lib.hid (rfails_is w S g s h)
  have HLT := Lib.hid h.lt
  have HV := Lib.hid hv
  have HNE := Lib.hid hne
  obtain ⟨A, q, c, rfl, N, hnc, hcm⟩ := hv.form
  obtain rfl : q = 512 := N.out.trans hl
  have h1 : ¬ ((secs s : Nat) : Int) ≤ (n : Int) := by omega
  have h0 : ¬ (n : Int) < 0 := by omega
  have HLL := Lib.hid hl
  have HN := Lib.hid hn
  unfold RFailed at HF
  clear h hv hne N
  cases hbl : blows s.F
  · have HR : Hid (writeR s (n : Int) l = (0, writeS (tick s) n l)) := by
      rw [Hid]; unfold writeR; rw [if_pos ⟨⟨by omega, by omega⟩, hl⟩, hbl]; rfl
    rw [hbl] at HF
    have HSEC : Hid (secs (tick s) = secs s) := rfl
    clear hbl hn hl
    generalize secs s = sec at *
    go_enter Tryz.func50, Tryz.ntmps50
    go_wp2_with fail
    refine HS.out.mono ?_
    rintro e w1 ⟨rfl, rfl⟩
    go_wp2_with fail
    refine HF.out.mono ?_
    rintro e w1 ⟨rfl, hd1, ht1, hs1⟩
    have HD1 := Lib.hid hd1
    have HT1 := Lib.hid ht1
    have HS1 := Lib.hid hs1
    have HE := Lib.hid (Own.empty w1)
    have HV1 := Lib.hid (HV.out.trn ht1 HNE.out)
    clear hd1 ht1 hs1 HF HS
    generalize tick s = s at *
    go_wp2_with (at_builtin; refine wpList_app _ rfl (.tmp 24) (.tmp 25) _ rfl w1.heap.size 5 i0 _ Tryz.underlying50 hi0 hz0 hz1 hz2 rfl _ [] rfl HE.out _ l rfl (HV1.out.alloc _) (by have := HLL.out; simp; omega) (by simp) ?_; intro v2 w2 hown2 hg2 hat2; have HB2 := Lib.hid (below_own (below_new w1 _) (by simp) HE.out hg2); have HO2 := Lib.hid hown2; clear hown2 hg2 hat2)
    have HD2 := Lib.hid (HD1.out.below HB2.out)
    have hx2 : Own w2 w1.heap.size 5 v2 l := by have := HO2.out; rw [List.nil_append] at this; exact this
    have HX2 := Lib.hid hx2
    obtain ⟨Av, nv, cv, rfl, Nv, _, _⟩ := hx2.byt.form
    have HT2 := Lib.hid (HT1.out.trans (Trn.of_below HB2.out (S := fun _ => False)) (fun _ _ h => h.elim))
    clear hx2 HO2 Nv
    refine (rfind_is w2 S g s n HD2.out).mono ?_
    rintro e w3 ⟨rfl, hfo⟩
    rcases hfo with ⟨j, hj, hjn, rfl⟩ | ⟨hno, rfl⟩
    · obtain ⟨ib, ic, vn, vc, vs, ha, F, ok⟩ := HD2.out
      have hj0 : (0 : Int) ≤ (j : Int) := by omega
      obtain ⟨cb, cc, rfl, hcc⟩ : ∃ cb cc, vc = .slice (some ⟨cb, 0, none⟩) s.C.length cc ∧ s.C.length ≤ cc ∧ cc ≤ 9223372036854775807 := by
        rcases ha.rows.2 with ⟨_, e0⟩ | ⟨cb, cc, cur, e1, _, _, e2, e3, _⟩
        · omega
        · unfold maxLen at e3
          exact ⟨cb, cc, e1, e2, by omega⟩
      obtain ⟨_, _, d2, _, _, _, _⟩ := robj_cells ha.obj
      have hvl := ha.len
      have hcell : w2.cell? ⟨cb, j, none⟩ = some (vs[j]'(by omega)) := by
        rw [ha.rows.cellAt j (by omega)]
        simp [hvl, hj]
      have hfz := ha.rows.frozenAt j
      have hib : ib < w2.heap.size := F.lt ib F.ib
      have hvib : (Value.slice Av nv cv).ownBlock ≠ some ib := fun e => by
        have h5 := (World.ownsRow.lt HX2.out ib e).1
        have h6 := HD1.out.lt ib F.ib
        omega
      have HX := Lib.hid (ha.setRow ok hj (HX2.out.lower (Nat.zero_le _)) hvib)
      have HFT := Lib.hid F
      have HOK := Lib.hid ok
      have hji : (j : Int) < ((s.C.length : Nat) : Int) := by omega
      have HJN := Lib.hid hjn
      generalize vs[j]'(by omega) = vj at *
      clear ha F ok hvib hjn
      go_wp2_with fail
      go_ret
      rw [HR.out]
      rw [HJN.out] at HX
      have hsz : (w2.setCell ⟨cb, j, none⟩ (.slice Av nv cv)).heap.size = w2.heap.size := setCell_size _ _ _
      have htr : Trn S w (w2.setCell ⟨cb, j, none⟩ (.slice Av nv cv)) := HT2.out.setCell _ (fun _ => HFT.out.c cb rfl)
      refine ⟨rfl, ⟨ib, ic, _, _, _, HX.out, ⟨.inl HFT.out.g, .inl HFT.out.ib, fun k hk => .inl (HFT.out.n k hk), fun k hk => .inl (HFT.out.c k hk), fun u hu k hk => ?_, more_lt htr.size HLT.out⟩, HOK.out.write ?_ HLL.out⟩, htr⟩
      · rcases List.mem_or_eq_of_mem_set hu with hu | rfl
        · exact .inl (HFT.out.r u hu k hk)
        · have h5 := World.ownsRow.lt HX2.out k hk
          exact .inr ⟨by have := HS1.out; omega, by rw [hsz]; exact h5.2⟩
      · rw [HSEC.out]; exact HN.out
    · obtain ⟨ib, ic, vn, vc, vs, ha, F, ok⟩ := HD2.out
      have HLK : Hid (lookC s.C n = none) := look_none hno
      have HMID : Hid (Mid w w2 S g ib ic s vn vc vs (.slice Av nv cv) l vn (inz (keysC s.C))) := by
        refine ⟨ha.obj, ha.img, ?_, ha.rows, ha.each, HX2.out.lower (Nat.zero_le _), fun e => ?_, HT2.out, fun k hk => .inl (F.n k hk)⟩
        · have := ha.ord
          rw [inz_len, keysC_len]
          exact this
        · have h5 := (World.ownsRow.lt HX2.out ib e).1
          have h6 := HD1.out.lt ib F.ib
          omega
      have HFT : Hid (RFoot S w g ib vn vc vs) := ⟨F.g, F.ib, F.n, F.c, F.r, HLT.out⟩
      have HFX : Hid (∀ k, (Value.slice Av nv cv).ownBlock = some k → w.heap.size ≤ k) := fun k hk => by
        have h5 := (World.ownsRow.lt HX2.out k hk).1
        have := HS1.out
        omega
      have HCN := Lib.hid ok.cnt
      have HOK := Lib.hid ok
      clear ha F ok hno
      go_wp2_with fail
      refine wp_region_any (by kernel_rfl) ?_
      refine take_plain 0 39 ?_ rfl rfl (by kernel_rfl) (by kernel_rfl) (by kernel_rfl) (fun _ _ _ h => h) rfl ?_ ?_
      rotate_left
      · intro u; go_simp <;> rfl
      simp only [Act.put, List.setIfInBounds_toArray, List.set_cons_zero, List.set_cons_succ]
      refine take_plain 1 40 ?_ rfl rfl (by kernel_rfl) (by kernel_rfl) (by kernel_rfl) (fun _ _ _ h => h) rfl ?_ ?_
      rotate_left
      · intro u; go_simp <;> rfl
      simp only [Act.put, List.setIfInBounds_toArray, List.set_cons_zero, List.set_cons_succ]
      refine take_plain 2 41 ?_ rfl rfl (by kernel_rfl) (by kernel_rfl) (by kernel_rfl) (fun _ _ _ h => h) rfl ?_ ?_
      rotate_left
      · intro u; go_simp <;> rfl
      simp only [Act.put, List.setIfInBounds_toArray, List.set_cons_zero, List.set_cons_succ]
      refine take_plain 3 42 ?_ rfl rfl (by kernel_rfl) (by kernel_rfl) (by kernel_rfl) (fun _ _ _ h => h) rfl ?_ ?_
      rotate_left
      · intro u; go_simp <;> rfl
      simp only [Act.put, List.setIfInBounds_toArray, List.set_cons_zero, List.set_cons_succ]
      refine take_plain 4 43 ?_ rfl rfl (by kernel_rfl) (by kernel_rfl) (by kernel_rfl) (fun _ _ _ h => h) rfl ?_ ?_
      rotate_left
      · intro u; go_simp <;> rfl
      simp only [Act.put, List.setIfInBounds_toArray, List.set_cons_zero, List.set_cons_succ]
      refine take_plain 6 45 ?_ rfl rfl (by kernel_rfl) (by kernel_rfl) (by kernel_rfl) (fun _ _ _ h => h) rfl ?_ ?_
      rotate_left
      · intro u; go_simp <;> rfl
      simp only [Act.put, List.setIfInBounds_toArray, List.set_cons_zero, List.set_cons_succ]
      refine take_plain 9 48 ?_ rfl rfl (by kernel_rfl) (by kernel_rfl) (by kernel_rfl) (fun _ _ _ h => h) rfl ?_ ?_
      rotate_left
      · intro u; go_simp <;> rfl
      simp only [Act.put, List.setIfInBounds_toArray, List.set_cons_zero, List.set_cons_succ]
      refine take_plain 10 49 ?_ rfl rfl (by kernel_rfl) (by kernel_rfl) (by kernel_rfl) (fun _ _ _ h => h) rfl ?_ ?_
      rotate_left
      · intro u; go_simp <;> rfl
      simp only [Act.put, List.setIfInBounds_toArray, List.set_cons_zero, List.set_cons_succ]
      refine take_plain 11 50 ?_ rfl rfl (by kernel_rfl) (by kernel_rfl) (by kernel_rfl) (fun _ _ _ h => h) rfl ?_ ?_
      rotate_left
      · intro u; go_simp <;> rfl
      simp only [Act.put, List.setIfInBounds_toArray, List.set_cons_zero, List.set_cons_succ]
      refine take_plain 13 52 ?_ rfl rfl (by kernel_rfl) (by kernel_rfl) (by kernel_rfl) (fun _ _ _ h => h) rfl ?_ ?_
      rotate_left
      · intro u; go_simp <;> rfl
      simp only [Act.put, List.setIfInBounds_toArray, List.set_cons_zero, List.set_cons_succ]
      refine any_lst (L' := lst false false false false false false false false false false false false) (by kernel_rfl) ?_
      refine reg10 (w := w) (S := S) (g := g) (ib := ib) (ic := ic) (s := s) (vn := vn) (vc := vc) (vs := vs) (x := .slice Av nv cv) (l := l) (n := n) ?_ ⟨_, rfl, rfl, rfl, rfl⟩ ⟨_, rfl, rfl, rfl, rfl⟩ ⟨_, rfl, rfl, rfl, rfl⟩ ⟨_, rfl, rfl, rfl, rfl⟩ ⟨_, rfl, rfl, rfl, rfl⟩ ⟨_, rfl, rfl, rfl, rfl⟩ ⟨_, rfl, rfl, rfl, rfl⟩ ⟨_, rfl, rfl, rfl, rfl⟩ ⟨_, rfl, rfl, rfl, rfl⟩ ⟨_, rfl, rfl, rfl, rfl⟩ ⟨_, rfl, rfl, rfl, rfl⟩ ⟨_, rfl, rfl, rfl, rfl⟩ (by kernel_rfl) (by kernel_rfl) (by kernel_rfl) (by kernel_rfl) (by kernel_rfl) (by kernel_rfl) (by kernel_rfl) (fun d5 d7 d12 d14 d8 hv => ?_) HFT.out HFX.out HLK.out HCN.out _ _ ⟨⟨rfl, rfl, rfl, rfl, rfl, rfl, rfl, rfl⟩, fun h => (by cases h), fun h => (by cases h), fun h => (by cases h), fun h => (by cases h), HMID.out.below ⟨rfl, rfl, rfl, Nat.le_refl _, fun _ _ => rfl⟩⟩
      rotate_left
      · cases d8
        · clear hv
          cases d5 <;> cases d7 <;> cases d12 <;> cases d14 <;> kernel_rfl
        · obtain ⟨rfl, rfl⟩ := hv rfl
          clear hv
          cases d12 <;> cases d14 <;> kernel_rfl
      intro a u v47 v54 hdf hsz href hfoot htrn
      obtain ⟨T, ds⟩ := a
      simp only at hdf hsz
      subst hdf
      have HREF := Lib.hid href
      have HFOOT := Lib.hid hfoot
      have HTRN := Lib.hid htrn
      clear href hfoot htrn
      go_wp2_with fail
      go_ret
      rw [HR.out]
      have hget : (Act.put ⟨T, []⟩ (some 6) (Value.int .i64 0)).eval (.tmp 6) = .int .i64 0 := ev_eq (by show 6 < T.size; omega)
      exact ⟨congrArg Ending.returned hget, ⟨ib, ic, _, _, _, HREF.out, HFOOT.out, HOK.out.write (by rw [HSEC.out]; exact HN.out) HLL.out⟩, HTRN.out⟩
  · have HR : Hid (writeR s (n : Int) l = (8, tick s)) := by
      rw [Hid]; unfold writeR; rw [if_pos ⟨⟨by omega, by omega⟩, hl⟩, hbl]; rfl
    rw [hbl] at HF
    clear hbl hn hl
    generalize secs s = sec at *
    go_enter Tryz.func50, Tryz.ntmps50
    go_wp2_with fail
    refine HS.out.mono ?_
    rintro e w1 ⟨rfl, rfl⟩
    go_wp2_with fail
    refine HF.out.mono ?_
    rintro e w1 ⟨rfl, hd1, ht1, hs1⟩
    have HD1 := Lib.hid hd1
    have HT1 := Lib.hid ht1
    clear hd1 ht1 hs1
    go_wp2_with fail
    go_ret
    rw [HR.out]
    exact ⟨rfl, HD1.out.more HT1.out.size HLT.out, HT1.out⟩
theorem rwrite_any (w : World) (S : Nat → Prop) (g : Nat) (s : St) (x : Int) (v : Value) (l : List UInt8) (h : Ref w S g s) (hv : Byt w v l) (hne : ∀ k, v.ownBlock = some k → ¬ S k) :
    Calls Tryz.prog 50 #[.pointer (some ⟨g, 0, none⟩), .int .i64 x, v] w (RDone w S g (writeR s x l)) := by
  by_cases hx : (0 ≤ x ∧ x < ((secs s : Nat) : Int)) ∧ l.length = 512
  · obtain ⟨n, rfl⟩ : ∃ n : Nat, x = (n : Int) := ⟨x.toNat, by omega⟩
    exact rwrite_ok w S g s n v l h hv hne (by omega) hx.2
  · exact rwrite_bad w S g s x v l h hv hx
end Go.Proofs.YteeljcnmgfjcmaaGreatDoor

