/-
  The statement RootDisk: roots are written to a disk, and found, as the document says, crashes and faults between. Conditions: none.
-/
import Derived.Test.YteeljcnmgfjcmaaGreatDoorMg11
import Derived.Test.YteeljcnmgfjcmaaGreatDoorMg9
import Derived.Test.YteeljcnmgfjcmaaGreatDoorMg3
namespace Go.Proofs.YteeljcnmgfjcmaaGreatDoor.rootDisk
open Go.ChangeShapes Go.WideShapes Go.ChangeAt Go.RowKit Go.Maps
set_option maxRecDepth 100000
set_option linter.unusedVariables false

/-- The program's disk and the document's, side by side. -/
structure PairD (w0 w : World) (S T : Nat → Prop) (d r : Nat) (s1 s2 : St) : Prop where
  d : Dsk w S d s1
  r : Ref w T r s2
  apart : ∀ k, S k → ¬ T k
  ls : ∀ k, S k → w0.heap.size ≤ k
  lt : ∀ k, T k → w0.heap.size ≤ k
  bel : Below w0.heap.size w0 w
section
variable {w0 w w' : World} {S T : Nat → Prop} {d r : Nat} {s1 s2 : St}
theorem PairD.below (h : PairD w0 w S T d r s1 s2) (hb : Below w.heap.size w w') : PairD w0 w' S T d r s1 s2 :=
  ⟨h.d.below hb, h.r.below hb, h.apart, h.ls, h.lt, h.bel.trans (hb.mono h.bel.size)⟩
theorem PairD.drew (h : PairD w0 w S T d r s1 s2) : PairD w0 w.drew S T d r s1 s2 :=
  ⟨h.d.same (Nat.le_refl _) (fun _ _ => rfl), h.r.same (Nat.le_refl _) (fun _ _ => rfl), h.apart, h.ls, h.lt, h.bel.drew⟩
theorem PairD.done {q : Nat × St} {e : Ending} (h : PairD w0 w S T d r s1 s2) (hd : Done w S d q e w') :
    e = .returned (.int .i64 ((q.1 : Nat) : Int)) ∧ ∃ S', PairD w0 w' S' T d r q.2 s2 ∧ Trn S w w' := by
  refine ⟨hd.1, more S w w', ⟨hd.2.1, h.r.trn hd.2.2 (fun k hk hs => h.apart k hs hk), fun k hk ht => ?_, fun k hk => hk.elim (h.ls k) (fun hk => Nat.le_trans h.bel.size hk.1), h.lt, h.bel.trans (hd.2.2.below h.bel.size h.ls)⟩, hd.2.2⟩
  rcases hk with hk | hk
  · exact h.apart k hk ht
  · have := h.r.lt k ht; omega
theorem PairD.rdone {q : Nat × St} {e : Ending} (h : PairD w0 w S T d r s1 s2) (hd : RDone w T r q e w') :
    e = .returned (.int .i64 ((q.1 : Nat) : Int)) ∧ ∃ T', PairD w0 w' S T' d r s1 q.2 ∧ Trn T w w' := by
  refine ⟨hd.1, more T w w', ⟨h.d.trn hd.2.2 (fun k hk ht => h.apart k hk ht), hd.2.1, fun k hk ht => ?_, h.ls, fun k hk => hk.elim (h.lt k) (fun hk => Nat.le_trans h.bel.size hk.1), h.bel.trans (hd.2.2.below h.bel.size h.lt)⟩, hd.2.2⟩
  rcases ht with ht | ht
  · exact h.apart k hk ht
  · have := h.d.lt k hk; omega
theorem PairD.red {q : List UInt8 × Nat × St} {e : Ending} (h : PairD w0 w S T d r s1 s2) (hd : Red w S d q e w') :
    ∃ v, e = .returned (.tuple #[v, .int .i64 ((q.2.1 : Nat) : Int)]) ∧ Byt w' v q.1 ∧ (∀ k, v.ownBlock = some k → ¬ S k ∧ ¬ T k) ∧ PairD w0 w' S T d r q.2.2 s2 ∧ Trn S w w' := by
  obtain ⟨v, h1, h2, h3, h4⟩ := hd
  refine ⟨v, h1, h2.byt, fun k hk => ⟨fun hs => ?_, fun ht => ?_⟩, ⟨h3, h.r.trn h4 (fun k hk hs => h.apart k hs hk), h.apart, h.ls, h.lt, h.bel.trans (h4.below h.bel.size h.ls)⟩, h4⟩
  · have := (World.ownsRow.lt h2 k hk).1; have := h.d.lt k hs; omega
  · have := (World.ownsRow.lt h2 k hk).1; have := h.r.lt k ht; omega
theorem PairD.rred {q : List UInt8 × Nat × St} {e : Ending} (h : PairD w0 w S T d r s1 s2) (hd : RRed w T r q e w') :
    ∃ v, e = .returned (.tuple #[v, .int .i64 ((q.2.1 : Nat) : Int)]) ∧ Byt w' v q.1 ∧ PairD w0 w' S T d r s1 q.2.2 ∧ Trn T w w' := by
  obtain ⟨v, h1, h2, h3, h4⟩ := hd
  exact ⟨v, h1, h2.byt, ⟨h.d.trn h4 (fun k hk ht => h.apart k hk ht), h3, h.apart, h.ls, h.lt, h.bel.trans (h4.below h.bel.size h.lt)⟩, h4⟩
theorem PairD.done2 {q : Nat × St} {e : Ending} (h : PairD w0 w S T d r s1 s2) (hd : Done w S d q e w') :
    e = .returned (.int .i64 ((q.1 : Nat) : Int)) ∧ PairD w0 w' (more S w w') T d r q.2 s2 ∧ Trn S w w' := by
  refine ⟨hd.1, ⟨hd.2.1, h.r.trn hd.2.2 (fun k hk hs => h.apart k hs hk), fun k hk ht => ?_, fun k hk => hk.elim (h.ls k) (fun hk => Nat.le_trans h.bel.size hk.1), h.lt, h.bel.trans (hd.2.2.below h.bel.size h.ls)⟩, hd.2.2⟩
  rcases hk with hk | hk
  · exact h.apart k hk ht
  · have := h.r.lt k ht; omega
theorem PairD.rdone2 {q : Nat × St} {e : Ending} (h : PairD w0 w S T d r s1 s2) (hd : RDone w T r q e w') :
    e = .returned (.int .i64 ((q.1 : Nat) : Int)) ∧ PairD w0 w' S (more T w w') d r s1 q.2 ∧ Trn T w w' := by
  refine ⟨hd.1, ⟨h.d.trn hd.2.2 (fun k hk ht => h.apart k hk ht), hd.2.1, fun k hk ht => ?_, h.ls, fun k hk => hk.elim (h.lt k) (fun hk => Nat.le_trans h.bel.size hk.1), h.bel.trans (hd.2.2.below h.bel.size h.lt)⟩, hd.2.2⟩
  rcases ht with ht | ht
  · exact h.apart k hk ht
  · have := h.d.lt k hk; omega
end

theorem PairD.find {w0 w w' : World} {S T : Nat → Prop} {d r : Nat} {s1 s2 : St} {q : Rt × Nat × St} {e : Ending} (h : PairD w0 w S T d r s1 s2) (hd : FindE w S d q e w') :
    e = .returned (.tuple #[.agg (rtV q.1), .int .i64 ((q.2.1 : Nat) : Int)]) ∧ PairD w0 w' S T d r q.2.2 s2 :=
  ⟨hd.1, hd.2.1, h.r.trn hd.2.2 (fun k hk hs => h.apart k hs hk), h.apart, h.ls, h.lt, h.bel.trans (hd.2.2.below h.bel.size h.ls)⟩
theorem PairD.rfind {w0 w w' : World} {S T : Nat → Prop} {d r : Nat} {s1 s2 : St} {q : Rt × Nat × St} {e : Ending} (h : PairD w0 w S T d r s1 s2) (hd : RFindE w T r q e w') :
    e = .returned (.tuple #[.agg (rtV q.1), .int .i64 ((q.2.1 : Nat) : Int)]) ∧ PairD w0 w' S T d r s1 q.2.2 ∧ Trn T w w' :=
  ⟨hd.1, ⟨h.d.trn hd.2.2 (fun k hk ht => h.apart k hk ht), hd.2.1, h.apart, h.ls, h.lt, h.bel.trans (hd.2.2.below h.bel.size h.lt)⟩, hd.2.2⟩
theorem findP_wf (s : St) : (findP s).1.Wf := by
  unfold findP
  split
  · split
    · split
      · exact chooseR_wf _ _ (slotR_wf _ _ _) (slotR_wf _ _ _)
      · exact zeroR_wf
    · exact zeroR_wf
  · exact zeroR_wf
def CBox (w : World) (cb : Nat) (vk : Value) (torn bytes : Int) : Prop := w.heap[cb]? = some (.cells (crashV vk torn bytes) 25)
theorem CBox.lt {w : World} {cb : Nat} {vk : Value} {torn bytes : Int} (h : CBox w cb vk torn bytes) : cb < w.heap.size := (Array.getElem?_eq_some_iff.1 h).1
theorem CBox.belowB {w w' : World} {B cb : Nat} {vk : Value} {torn bytes : Int} (h : CBox w cb vk torn bytes) (hb : Below B w w') (hl : cb < B) : CBox w' cb vk torn bytes := (hb.block cb hl).trans h
theorem CBox.cells {w : World} {cb : Nat} {vk : Value} {torn bytes : Int} (h : CBox w cb vk torn bytes) : w.cell? ⟨cb, 0, none⟩ = some vk ∧ w.cell? ⟨cb, 1, none⟩ = some (.int .i64 torn) ∧ w.cell? ⟨cb, 2, none⟩ = some (.int .i64 bytes) := by
  refine ⟨?_, ?_, ?_⟩ <;> (rw [cell_of_row _ _ _ _ _ _ h]; rfl)
def DiskRel (wB : World) (len d r : Nat) (i : Value) (wr : World) : Prop :=
  ∃ (k : Nat) (s : St) (S T : Nat → Prop), k ≤ len ∧ i = .int .i64 (k : Int) ∧ PairD wB wr S T d r s s
set_option maxRecDepth 100000 in
set_option maxHeartbeats 40000000 in
theorem walk_great1 (w : World) (x : Int) (v1 : Value) (len : Nat) (f : Nat → Rt) (y : Int) (vk : Value) (keep : List Bool) (torn bytes : Int) (hl : Roots w v1 len f) (hy : -9223372036854775808 ≤ y ∧ y ≤ 9223372036854775807) (hk : Rowz w vk (keep.map Value.bool)) (h : 80 < x) :
    Calls Tryz.prog 3 #[.int .i64 x, v1, .int .i64 y, .agg (crashV vk torn bytes)] w fun e w' => e = .returned (.bool true) ∧ Below w.heap.size w w' := by
  have Z := rtZero
  obtain ⟨A, c, rfl, hnc, hcm⟩ := hl.form
  obtain ⟨A2, m2, c2, rfl, N2, hnc2, hcm2⟩ := hk.form
  obtain ⟨w0, hw0⟩ : ∃ w0, w.alloc (.cells (crashV (.slice A2 m2 c2) torn bytes) 25) = w0 := ⟨_, rfl⟩
  have B0 : Hid (Below w.heap.size w w0) := hw0 ▸ below_new w _
  have X0 : Hid (CBox w0 w.heap.size (.slice A2 m2 c2) torn bytes) := by rw [Hid, ← hw0]; exact heap_alloc_new w _
  have HW0 := Lib.hid hw0
  have HV := Lib.hid hl
  have HK := Lib.hid hk
  have HY := Lib.hid hy
  have LC : Hid (∀ w', Rowz w' (.slice A2 m2 c2) (keep.map Value.bool) → Calls Tryz.prog 5 #[.agg (crashV (.slice A2 m2 c2) torn bytes), .int .i64 100] w' fun e w'' => e = .returned (.bool (decide ((keep.length : Int) ≤ 100))) ∧ Below w'.heap.size w' w'') := fun w' h' => light_any w' _ keep torn bytes 100 h'
  unfold crashV at LC HW0 ⊢
  clear hl hk hw0 hy
  go_enter Tryz.func3, Tryz.ntmps3
  go_wp2_with fail
  rw [HW0.out]
  clear HW0
  refine (lives6_any _).mono ?_
  rintro e w1 ⟨rfl, hb⟩
  have B1 := Lib.hid (B0.out.trans (hb.mono B0.out.size))
  have X1 := Lib.hid (X0.out.belowB hb X0.out.lt)
  clear hb B0 X0
  go_wp2_with fail
  go_ret
  exact ⟨rfl, B1.out⟩
set_option maxRecDepth 100000 in
set_option maxHeartbeats 40000000 in
theorem walk_great2 (w : World) (x : Int) (v1 : Value) (len : Nat) (f : Nat → Rt) (y : Int) (vk : Value) (keep : List Bool) (torn bytes : Int) (hl : Roots w v1 len f) (hy : -9223372036854775808 ≤ y ∧ y ≤ 9223372036854775807) (hk : Rowz w vk (keep.map Value.bool)) (h0 : ¬ 80 < x) (h : 12 < len) :
    Calls Tryz.prog 3 #[.int .i64 x, v1, .int .i64 y, .agg (crashV vk torn bytes)] w fun e w' => e = .returned (.bool true) ∧ Below w.heap.size w w' := by
  have Z := rtZero
  obtain ⟨A, c, rfl, hnc, hcm⟩ := hl.form
  obtain ⟨A2, m2, c2, rfl, N2, hnc2, hcm2⟩ := hk.form
  obtain ⟨w0, hw0⟩ : ∃ w0, w.alloc (.cells (crashV (.slice A2 m2 c2) torn bytes) 25) = w0 := ⟨_, rfl⟩
  have B0 : Hid (Below w.heap.size w w0) := hw0 ▸ below_new w _
  have X0 : Hid (CBox w0 w.heap.size (.slice A2 m2 c2) torn bytes) := by rw [Hid, ← hw0]; exact heap_alloc_new w _
  have HW0 := Lib.hid hw0
  have HV := Lib.hid hl
  have HK := Lib.hid hk
  have HY := Lib.hid hy
  have LC : Hid (∀ w', Rowz w' (.slice A2 m2 c2) (keep.map Value.bool) → Calls Tryz.prog 5 #[.agg (crashV (.slice A2 m2 c2) torn bytes), .int .i64 100] w' fun e w'' => e = .returned (.bool (decide ((keep.length : Int) ≤ 100))) ∧ Below w'.heap.size w' w'') := fun w' h' => light_any w' _ keep torn bytes 100 h'
  unfold crashV at LC HW0 ⊢
  clear hl hk hw0 hy
  have h1 : (12 : Int) < (len : Int) := by omega
  clear h
  go_enter Tryz.func3, Tryz.ntmps3
  go_wp2_with fail
  rw [HW0.out]
  clear HW0
  refine (lives6_any _).mono ?_
  rintro e w1 ⟨rfl, hb⟩
  have B1 := Lib.hid (B0.out.trans (hb.mono B0.out.size))
  have X1 := Lib.hid (X0.out.belowB hb X0.out.lt)
  clear hb B0 X0
  go_wp2_with fail
  go_ret
  exact ⟨rfl, B1.out⟩
set_option maxRecDepth 100000 in
set_option maxHeartbeats 40000000 in
theorem walk_great3 (w : World) (x : Int) (v1 : Value) (len : Nat) (f : Nat → Rt) (y : Int) (vk : Value) (keep : List Bool) (torn bytes : Int) (hl : Roots w v1 len f) (hy : -9223372036854775808 ≤ y ∧ y ≤ 9223372036854775807) (hk : Rowz w vk (keep.map Value.bool)) (h0 : ¬ 80 < x) (h : ¬ 12 < len) (h2 : 100 < keep.length) :
    Calls Tryz.prog 3 #[.int .i64 x, v1, .int .i64 y, .agg (crashV vk torn bytes)] w fun e w' => e = .returned (.bool true) ∧ Below w.heap.size w w' := by
  have Z := rtZero
  obtain ⟨A, c, rfl, hnc, hcm⟩ := hl.form
  obtain ⟨A2, m2, c2, rfl, N2, hnc2, hcm2⟩ := hk.form
  obtain ⟨w0, hw0⟩ : ∃ w0, w.alloc (.cells (crashV (.slice A2 m2 c2) torn bytes) 25) = w0 := ⟨_, rfl⟩
  have B0 : Hid (Below w.heap.size w w0) := hw0 ▸ below_new w _
  have X0 : Hid (CBox w0 w.heap.size (.slice A2 m2 c2) torn bytes) := by rw [Hid, ← hw0]; exact heap_alloc_new w _
  have HW0 := Lib.hid hw0
  have HV := Lib.hid hl
  have HK := Lib.hid hk
  have HY := Lib.hid hy
  have LC : Hid (∀ w', Rowz w' (.slice A2 m2 c2) (keep.map Value.bool) → Calls Tryz.prog 5 #[.agg (crashV (.slice A2 m2 c2) torn bytes), .int .i64 100] w' fun e w'' => e = .returned (.bool (decide ((keep.length : Int) ≤ 100))) ∧ Below w'.heap.size w' w'') := fun w' h' => light_any w' _ keep torn bytes 100 h'
  unfold crashV at LC HW0 ⊢
  clear hl hk hw0 hy
  have h1 : ¬ (12 : Int) < (len : Int) := by omega
  clear h
  go_enter Tryz.func3, Tryz.ntmps3
  go_wp2_with fail
  rw [HW0.out]
  clear HW0
  refine (lives6_any _).mono ?_
  rintro e w1 ⟨rfl, hb⟩
  have B1 := Lib.hid (B0.out.trans (hb.mono B0.out.size))
  have X1 := Lib.hid (X0.out.belowB hb X0.out.lt)
  clear hb B0 X0
  obtain ⟨d0, d1, d2⟩ := X1.out.cells
  go_wp2_with fail
  clear d0 d1 d2
  refine (LC.out _ (HK.out.below B1.out)).mono ?_
  rintro e w2 ⟨rfl, hb⟩
  have B2 := Lib.hid (B1.out.trans (hb.mono B1.out.size))
  have X2 := Lib.hid (X1.out.belowB hb X1.out.lt)
  clear hb B1 X1 LC
  rw [show decide ((keep.length : Int) ≤ 100) = false from decide_eq_false (by omega)]
  go_wp2_with fail
  go_ret
  exact ⟨rfl, B2.out⟩
set_option maxRecDepth 100000 in
set_option maxHeartbeats 40000000 in
theorem walk_bad (w : World) (x : Int) (v1 : Value) (len : Nat) (f : Nat → Rt) (y : Int) (vk : Value) (keep : List Bool) (torn bytes : Int) (hl : Roots w v1 len f) (hy : -9223372036854775808 ≤ y ∧ y ≤ 9223372036854775807) (hk : Rowz w vk (keep.map Value.bool)) (h0 : ¬ 80 < x) (h : ¬ 12 < len) (h2 : (keep.length : Int) ≤ 100) (h3 : x < 1) :
    Calls Tryz.prog 3 #[.int .i64 x, v1, .int .i64 y, .agg (crashV vk torn bytes)] w fun e w' => e = .returned (.bool true) ∧ Below w.heap.size w w' := by
  have Z := rtZero
  obtain ⟨A, c, rfl, hnc, hcm⟩ := hl.form
  obtain ⟨A2, m2, c2, rfl, N2, hnc2, hcm2⟩ := hk.form
  obtain ⟨w0, hw0⟩ : ∃ w0, w.alloc (.cells (crashV (.slice A2 m2 c2) torn bytes) 25) = w0 := ⟨_, rfl⟩
  have B0 : Hid (Below w.heap.size w w0) := hw0 ▸ below_new w _
  have X0 : Hid (CBox w0 w.heap.size (.slice A2 m2 c2) torn bytes) := by rw [Hid, ← hw0]; exact heap_alloc_new w _
  have HW0 := Lib.hid hw0
  have HV := Lib.hid hl
  have HK := Lib.hid hk
  have HY := Lib.hid hy
  have LC : Hid (∀ w', Rowz w' (.slice A2 m2 c2) (keep.map Value.bool) → Calls Tryz.prog 5 #[.agg (crashV (.slice A2 m2 c2) torn bytes), .int .i64 100] w' fun e w'' => e = .returned (.bool (decide ((keep.length : Int) ≤ 100))) ∧ Below w'.heap.size w' w'') := fun w' h' => light_any w' _ keep torn bytes 100 h'
  unfold crashV at LC HW0 ⊢
  clear hl hk hw0 hy
  have h1 : ¬ (12 : Int) < (len : Int) := by omega
  have HL12 : Hid (len ≤ 12) := by rw [Hid]; omega
  have HK1 := Lib.hid h2
  clear h
  go_enter Tryz.func3, Tryz.ntmps3
  go_wp2_with fail
  rw [HW0.out]
  clear HW0
  refine (lives6_any _).mono ?_
  rintro e w1 ⟨rfl, hb⟩
  have B1 := Lib.hid (B0.out.trans (hb.mono B0.out.size))
  have X1 := Lib.hid (X0.out.belowB hb X0.out.lt)
  clear hb B0 X0
  obtain ⟨d0, d1, d2⟩ := X1.out.cells
  go_wp2_with fail
  clear d0 d1 d2
  refine (LC.out _ (HK.out.below B1.out)).mono ?_
  rintro e w2 ⟨rfl, hb⟩
  have B2 := Lib.hid (B1.out.trans (hb.mono B1.out.size))
  have X2 := Lib.hid (X1.out.belowB hb X1.out.lt)
  clear hb B1 X1 LC
  rw [show decide ((keep.length : Int) ≤ 100) = true from decide_eq_true HK1.out]
  go_wp2_with fail
  refine (snew_bad _ x (.inl h3)).mono ?_
  rintro e w3 ⟨rfl, rfl⟩
  go_wp2_with fail
  refine (rnew_bad _ x (.inl h3)).mono ?_
  rintro e w4 ⟨rfl, rfl⟩
  go_wp2_with fail
  go_ret
  exact ⟨rfl, B2.out⟩
set_option maxRecDepth 100000 in
set_option maxHeartbeats 40000000 in
theorem walk_ok (w : World) (x : Int) (v1 : Value) (len : Nat) (f : Nat → Rt) (y : Int) (vk : Value) (keep : List Bool) (torn bytes : Int) (hl : Roots w v1 len f) (hy : -9223372036854775808 ≤ y ∧ y ≤ 9223372036854775807) (hk : Rowz w vk (keep.map Value.bool)) (h0 : ¬ 80 < x) (h : ¬ 12 < len) (h2 : (keep.length : Int) ≤ 100) (h3 : 1 ≤ x) :
    Calls Tryz.prog 3 #[.int .i64 x, v1, .int .i64 y, .agg (crashV vk torn bytes)] w fun e w' => e = .returned (.bool true) ∧ Below w.heap.size w w' := by
  have Z := rtZero
  obtain ⟨A, c, rfl, hnc, hcm⟩ := hl.form
  obtain ⟨A2, m2, c2, rfl, N2, hnc2, hcm2⟩ := hk.form
  obtain ⟨w0, hw0⟩ : ∃ w0, w.alloc (.cells (crashV (.slice A2 m2 c2) torn bytes) 25) = w0 := ⟨_, rfl⟩
  have B0 : Hid (Below w.heap.size w w0) := hw0 ▸ below_new w _
  have X0 : Hid (CBox w0 w.heap.size (.slice A2 m2 c2) torn bytes) := by rw [Hid, ← hw0]; exact heap_alloc_new w _
  have HW0 := Lib.hid hw0
  have HV := Lib.hid hl
  have HK := Lib.hid hk
  have HY := Lib.hid hy
  have LC : Hid (∀ w', Rowz w' (.slice A2 m2 c2) (keep.map Value.bool) → Calls Tryz.prog 5 #[.agg (crashV (.slice A2 m2 c2) torn bytes), .int .i64 100] w' fun e w'' => e = .returned (.bool (decide ((keep.length : Int) ≤ 100))) ∧ Below w'.heap.size w' w'') := fun w' h' => light_any w' _ keep torn bytes 100 h'
  unfold crashV at LC HW0 ⊢
  clear hl hk hw0 hy
  have h1 : ¬ (12 : Int) < (len : Int) := by omega
  have HL12 : Hid (len ≤ 12) := by rw [Hid]; omega
  have HK1 := Lib.hid h2
  clear h
  go_enter Tryz.func3, Tryz.ntmps3
  go_wp2_with fail
  rw [HW0.out]
  clear HW0
  refine (lives6_any _).mono ?_
  rintro e w1 ⟨rfl, hb⟩
  have B1 := Lib.hid (B0.out.trans (hb.mono B0.out.size))
  have X1 := Lib.hid (X0.out.belowB hb X0.out.lt)
  clear hb B0 X0
  obtain ⟨d0, d1, d2⟩ := X1.out.cells
  go_wp2_with fail
  clear d0 d1 d2
  refine (LC.out _ (HK.out.below B1.out)).mono ?_
  rintro e w2 ⟨rfl, hb⟩
  have B2 := Lib.hid (B1.out.trans (hb.mono B1.out.size))
  have X2 := Lib.hid (X1.out.belowB hb X1.out.lt)
  clear hb B1 X1 LC
  rw [show decide ((keep.length : Int) ≤ 100) = true from decide_eq_true HK1.out]
  have KC : Hid (∀ w', Rowz w' (.slice A2 m2 c2) (keep.map Value.bool) → Calls Tryz.prog 15 #[.agg #[.slice A2 m2 c2, .int .i64 torn, .int .i64 bytes]] w' (CrashOwn w' keep torn bytes)) := fun w' h' => kcrash_any w' _ keep torn bytes h' (by have := HK1.out; omega)
  obtain ⟨n0, rfl⟩ : ∃ n0 : Nat, x = (n0 : Int) := ⟨x.toNat, by omega⟩
  have HN1 : Hid (0 < n0) := by rw [Hid]; omega
  have HN80 : Hid (n0 ≤ 80) := by rw [Hid]; omega
  clear h3
  go_wp2_with fail
  refine (snew_any _ n0 HN1.out (by have := HN80.out; omega)).mono ?_
  rintro e w3 ⟨d, rfl, hd3, hb3⟩
  have HD3 := Lib.hid hd3
  have HB3 := Lib.hid hb3
  clear hd3 hb3
  go_wp2_with fail
  refine (rnew_any _ n0 HN1.out (by have := HN80.out; omega)).mono ?_
  rintro e w4 ⟨r, rfl, hr4, hb4⟩
  obtain ⟨S, hS⟩ : ∃ S : Nat → Prop, S = fun k => w2.heap.size ≤ k ∧ k < w3.heap.size := ⟨_, rfl⟩
  obtain ⟨T, hT⟩ : ∃ T : Nat → Prop, T = fun k => w3.heap.size ≤ k ∧ k < w4.heap.size := ⟨_, rfl⟩
  have HP4 : Hid (PairD w2 w4 S T d r (newS n0) (newS n0)) := by
    rw [hS, hT]
    exact ⟨HD3.out.below hb4, hr4, fun k h1 h2 => by omega, fun k hk => hk.1, fun k hk => Nat.le_trans HB3.out.size hk.1, HB3.out.trans (hb4.mono HB3.out.size)⟩
  have HVB := Lib.hid (HV.out.below B2.out)
  clear hr4 hb4 hS hT HD3 HB3
  have HKB := Lib.hid (HK.out.below B2.out)
  have HKL : Hid (keep ≠ [] → ∀ k, (Value.slice A2 m2 c2).ownBlock = some k → k < w2.heap.size) := fun hne k hk => by
    obtain ⟨A', c', e, _, _, h3⟩ := HKB.out
    rcases h3 with h3 | ⟨b, off, rfl, hb, _⟩
    · exact absurd (List.map_eq_nil_iff.1 h3) hne
    · rw [e] at hk
      simp [Value.ownBlock] at hk
      exact hk ▸ hb
  go_wp2_with fail
  go_loopw [13] (fun i wr => DiskRel w2 len d r i wr) (fun i _ => len - (intOf i).toNat)
  case atStart => exact ⟨0, _, _, _, by omega, rfl, HP4.out⟩
  case round =>
    clear HP4
    obtain ⟨k, s, S, T, hk, rfl, hpr⟩ := hrel
    have HP := Lib.hid hpr
    clear hpr
    by_cases hlt : k < len
    · obtain ⟨b, off, rfl, hbs, hcs, hwf⟩ := HVB.out.at hlt
      have HLC : Hid (∀ u, Below w2.heap.size w2 u → ∀ i x, (rtV (f k)).toList[i]? = some x → u.cell? ⟨b, off + k * 9 + i, none⟩ = some x) := fun u hu i x hx => by rw [hu.cell (p := ⟨b, off + k * 9 + i, none⟩) hbs]; exact hcs i x hx
      have HWF := Lib.hid hwf
      clear hbs hcs hwf
      have hli : (k : Int) < (len : Int) := by omega
      have HKK := Lib.hid hk
      go_wp2_with fail
      have HPd : Hid (PairD w2 wr.drew S T d r s s) := HP.out.drew
      clear HP
      refine wp_region_R (R := fun x y => Below w2.heap.size x y) (by kernel_rfl) (fun _ => Below.refl _ _) (fun h k => h.trans k) (by kernel_rfl) (fun d v c a w h => by cases d <;> exact h)
        [(0, false), (1, false), (2, false), (3, false), (4, false), (6, false), (7, false), (8, false), (9, false), (10, false), (5, true), (11, true), (12, false)] rfl (by kernel_rfl) (by kernel_rfl) ?_
      simp only [sel, List.getElem?_toArray, List.getElem?_cons_succ, List.getElem?_cons_zero]
      generalize wr.drew = wd at *
      have HW1 := Lib.hid (rwrite_is wd S d s (f k) HPd.out.d HWF.out)
      have HW2 : Hid (∀ W T', Ref W T' r s → Calls Tryz.prog 9 #[.pointer (some ⟨r, 0, none⟩), .agg (rtV (f k))] W (RDone W T' r (writeP s (f k)))) := fun W T' h => r6write_is W T' r s (f k) h HWF.out
      generalize writeP s (f k) = wq at *
      obtain ⟨e1, s1⟩ := wq
      iterate 4 (refine sch_take ?_ rfl ?_ ?_; rotate_left; (focus (intro u hu; go_simp <;> rfl)); simp only [Act.put, List.setIfInBounds_toArray, List.set_cons_zero, List.set_cons_succ])
      refine sch_take (.agg (rtV (f k))) rfl (fun u hu => exec_loadL _ rfl b (off + k * 9) rfl (HLC.out _ (HPd.out.bel.trans hu))) ?_
      simp only [Act.put, List.setIfInBounds_toArray, List.set_cons_zero, List.set_cons_succ]
      iterate 4 (refine sch_take ?_ rfl ?_ ?_; rotate_left; (focus (intro u hu; go_simp <;> rfl)); simp only [Act.put, List.setIfInBounds_toArray, List.set_cons_zero, List.set_cons_succ])
      refine sch_take (.agg (rtV (f k))) rfl (fun u hu => exec_loadL _ rfl b (off + k * 9) rfl (HLC.out _ (HPd.out.bel.trans hu))) ?_
      simp only [Act.put, List.setIfInBounds_toArray, List.set_cons_zero, List.set_cons_succ]
      refine sch_call rfl ?_
      intro K hK
      go_simp
      refine (HW1.out).mono ?_
      intro e w5 hdone; obtain ⟨rfl, hp5, ht5⟩ := HPd.out.done2 hdone
      go_wp2_with fail
      refine hK _ _ (ht5.below HPd.out.bel.size HPd.out.ls) ?_
      clear hK K
      have HP5 := Lib.hid hp5
      clear hdone hp5 ht5 HPd HW1
      generalize more S wd w5 = S5 at *
      refine sch_call rfl ?_
      intro K hK
      go_simp
      refine (HW2.out _ T HP5.out.r).mono ?_
      intro e w6 hdone; obtain ⟨rfl, hp6, ht6⟩ := HP5.out.rdone2 hdone
      go_wp2_with fail
      refine hK _ _ (ht6.below HP5.out.bel.size HP5.out.lt) ?_
      clear hK K
      have HP6 := Lib.hid hp6
      clear hdone hp6 ht6 HP5 HW2
      generalize more T w5 w6 = T6 at *
      (refine sch_take ?_ rfl ?_ ?_; rotate_left; (focus (intro u hu; go_simp <;> rfl)); simp only [Act.put, List.setIfInBounds_toArray, List.set_cons_zero, List.set_cons_succ])
      refine sch_nil ?_
      go_wp2_with fail
      have FW6 := Lib.hid (findP_wf s1)
      have FD6 := Lib.hid (rootfind_is w6 S5 d s1 HP6.out.d)
      have FR6 : Hid (∀ W T', Ref W T' r s1 → Calls Tryz.prog 11 #[.pointer (some ⟨r, 0, none⟩)] W (RFindE W T' r (findP s1))) := fun W T' h => r6find_is W T' r s1 h
      generalize findP s1 = fq6 at *
      obtain ⟨q6, e6, s6⟩ := fq6
      refine FD6.out.mono ?_
      intro e wf6 hfe
      obtain ⟨rfl, hp⟩ := HP6.out.find hfe
      have PA6 := Lib.hid hp
      clear hfe hp FD6 HP6
      go_wp2_with (with_reducible (show wpList _ _ _ (⟨_, Op.store 39 _ _, _, _, _, _⟩ :: _) _ _); refine wpList_storeNewRt zeroR q6 rfl _ _ rfl rfl rfl ?_; intro wg6 hx hb hl)
      have PB6 := Lib.hid (PA6.out.below hb)
      have XA6 := Lib.hid hx
      have HXN6 : Hid (¬ T6 wf6.heap.size) := fun h => by have := PA6.out.r.lt _ h; omega
      clear hx hb hl PA6
      refine (FR6.out _ T6 PB6.out.r).mono ?_
      intro e wh6 hfe
      obtain ⟨rfl, hp, ht⟩ := PB6.out.rfind hfe
      have PC6 := Lib.hid hp
      have XB6 := Lib.hid (XA6.out.trn ht HXN6.out)
      clear hfe hp ht PB6 XA6 HXN6 FR6
      by_cases hk1 : k = 1
      · subst hk1
        go_wp2_with (first | (with_reducible (show wpList _ _ _ (⟨_, Op.store 39 _ _, _, _, _, _⟩ :: _) _ _); refine wpList_storeNewRt zeroR q6 rfl _ _ rfl rfl rfl ?_; intro wi hx hb hl) | (with_reducible (show wpList _ _ _ (⟨_, Op.load 39 _, _, _, _, _⟩ :: _) _ _); first | (refine wpList_exec rfl _ (exec_loadRt _ rfl _ rfl (hx)) ?_) | (refine wpList_exec rfl _ (exec_loadRt _ rfl _ rfl (XB6.out.below hb)) ?_)) | (with_reducible (show wpList _ _ _ (⟨_, Op.binOp BinOp.neq 39 _ _ _, _, _, _, _⟩ :: _) _ _); refine wpList_exec rfl (.bool false) (exec_neRt_same _ _ rfl rfl rfl FW6.out) ?_))
        have PD := Lib.hid (PC6.out.below hb)
        clear hx hb hl PC6 XB6
        refine (fail_is wi S5 d _ y PD.out.d HY.out.2).mono ?_
        intro e wj hdone
        obtain ⟨rfl, hp, ht⟩ := PD.out.done2 hdone
        have PE := Lib.hid hp
        clear hdone hp ht PD
        go_wp2_with fail
        refine (rfail_is wj T6 r _ y PE.out.r HY.out).mono ?_
        rintro e wk ⟨rfl, hr7, ht7⟩
        obtain ⟨_, hp7, _⟩ := PE.out.rdone2 (q := (0, failS s6 y)) (e := .returned (.int .i64 0)) ⟨rfl, hr7.more ht7.size PE.out.r.lt, ht7⟩
        have PF := Lib.hid hp7
        clear hr7 ht7 hp7 PE
        go_wp2_with fail
        go_roundw
        case rel => exact ⟨2, _, _, _, by omega, by rfl, PF.out⟩
        case measure => simp [intOf]; omega
      · have hk2 : ((k : Int) == 1) = false := by rw [beq_eq_false_iff_ne]; omega
        go_wp2_with (first | (with_reducible (show wpList _ _ _ (⟨_, Op.store 39 _ _, _, _, _, _⟩ :: _) _ _); refine wpList_storeNewRt zeroR q6 rfl _ _ rfl rfl rfl ?_; intro wi hx hb hl) | (with_reducible (show wpList _ _ _ (⟨_, Op.load 39 _, _, _, _, _⟩ :: _) _ _); first | (refine wpList_exec rfl _ (exec_loadRt _ rfl _ rfl (hx)) ?_) | (refine wpList_exec rfl _ (exec_loadRt _ rfl _ rfl (XB6.out.below hb)) ?_)) | (with_reducible (show wpList _ _ _ (⟨_, Op.binOp BinOp.neq 39 _ _ _, _, _, _, _⟩ :: _) _ _); refine wpList_exec rfl (.bool false) (exec_neRt_same _ _ rfl rfl rfl FW6.out) ?_))
        have PD := Lib.hid (PC6.out.below hb)
        clear hx hb hl PC6 XB6
        go_roundw
        case rel => exact ⟨k + 1, _, _, _, by omega, by go_num, PD.out⟩
        case measure => simp [intOf]; omega
    · obtain rfl : k = len := by omega
      have hbX := HP.out.bel
      obtain ⟨d0, d1, d2⟩ := (X2.out.belowB hbX X2.out.lt).cells
      clear hbX
      go_wp2_with fail
      clear d0 d1 d2
      refine (KC.out _ (HKB.out.below HP.out.bel)).mono ?_
      rintro e w5 ⟨v5, rfl, hr5, ho5, hb5⟩
      have HP5 := Lib.hid (HP.out.below hb5)
      have HR5 := Lib.hid hr5
      have HO5 : Hid (∀ k, v5.ownBlock = some k → ¬ S k) := fun k hk hs => by have := ho5 k hk; have := HP.out.d.lt k hs; omega
      obtain ⟨A5, n5, c5, rfl, N5, hnc5, hcm5⟩ := hr5.form
      clear hr5 ho5 hb5 HP KC
      unfold crashV
      go_wp2_with fail
      refine (crash_is _ S d s _ keep torn bytes HP5.out.d HR5.out HO5.out).mono ?_
      intro e w6 hdone
      obtain ⟨rfl, hp6, ht6⟩ := HP5.out.done2 hdone
      have HP6 := Lib.hid hp6
      clear hdone hp6 ht6 HP5 HR5 HO5
      generalize more S w5 w6 = S6 at *
      obtain ⟨d0, d1, d2⟩ := (X2.out.belowB HP6.out.bel X2.out.lt).cells
      go_wp2_with fail
      clear d0 d1 d2
      refine (rcrash_is _ T r s (.slice A2 m2 c2) keep torn bytes HP6.out.r (HKB.out.below HP6.out.bel) (fun hne k hk hT => by have := HKL.out hne k hk; have := HP6.out.lt k hT; omega)).mono ?_
      intro e w7 hdone
      obtain ⟨rfl, hp7, ht7⟩ := HP6.out.rdone2 hdone
      have HP7 := Lib.hid hp7
      clear hdone hp7 ht7 HP6
      generalize more T w6 w7 = T7 at *
      generalize crashS s keep torn bytes = s8 at *
      go_wp2_with fail
      have FW7 := Lib.hid (findP_wf s8)
      have FD7 := Lib.hid (rootfind_is w7 S6 d s8 HP7.out.d)
      have FR7 : Hid (∀ W T', Ref W T' r s8 → Calls Tryz.prog 11 #[.pointer (some ⟨r, 0, none⟩)] W (RFindE W T' r (findP s8))) := fun W T' h => r6find_is W T' r s8 h
      generalize findP s8 = fq7 at *
      obtain ⟨q7, e7, s7⟩ := fq7
      refine FD7.out.mono ?_
      intro e wf7 hfe
      obtain ⟨rfl, hp⟩ := HP7.out.find hfe
      have PA7 := Lib.hid hp
      clear hfe hp FD7 HP7
      go_wp2_with (with_reducible (show wpList _ _ _ (⟨_, Op.store 39 _ _, _, _, _, _⟩ :: _) _ _); refine wpList_storeNewRt zeroR q7 rfl _ _ rfl rfl rfl ?_; intro wg7 hx hb hl)
      have PB7 := Lib.hid (PA7.out.below hb)
      have XA7 := Lib.hid hx
      have HXN7 : Hid (¬ T7 wf7.heap.size) := fun h => by have := PA7.out.r.lt _ h; omega
      clear hx hb hl PA7
      refine (FR7.out _ T7 PB7.out.r).mono ?_
      intro e wh7 hfe
      obtain ⟨rfl, hp, ht⟩ := PB7.out.rfind hfe
      have PC7 := Lib.hid hp
      have XB7 := Lib.hid (XA7.out.trn ht HXN7.out)
      clear hfe hp ht PB7 XA7 HXN7 FR7
      go_wp2_with (first | (with_reducible (show wpList _ _ _ (⟨_, Op.store 39 _ _, _, _, _, _⟩ :: _) _ _); refine wpList_storeNewRt zeroR q7 rfl _ _ rfl rfl rfl ?_; intro wi hx hb hl) | (with_reducible (show wpList _ _ _ (⟨_, Op.load 39 _, _, _, _, _⟩ :: _) _ _); first | (refine wpList_exec rfl _ (exec_loadRt _ rfl _ rfl (hx)) ?_) | (refine wpList_exec rfl _ (exec_loadRt _ rfl _ rfl (XB7.out.below hb)) ?_)) | (with_reducible (show wpList _ _ _ (⟨_, Op.binOp BinOp.eql 39 _ _ _, _, _, _, _⟩ :: _) _ _); refine wpList_exec rfl (.bool true) (exec_eqRt_same _ _ rfl rfl rfl FW7.out) ?_))
      go_ret
      exact ⟨rfl, B2.out.trans ((PC7.out.bel.trans (hb.mono PC7.out.bel.size)).mono B2.out.size)⟩

theorem walk (w : World) (x : Int) (v1 : Value) (len : Nat) (f : Nat → Rt) (y : Int) (vk : Value) (keep : List Bool) (torn bytes : Int) (_hx : -9223372036854775808 ≤ x ∧ x ≤ 9223372036854775807) (hl : Roots w v1 len f) (hy : -9223372036854775808 ≤ y ∧ y ≤ 9223372036854775807) (hk : Rowz w vk (keep.map Value.bool)) (_ht : -9223372036854775808 ≤ torn ∧ torn ≤ 9223372036854775807) (_hb : -9223372036854775808 ≤ bytes ∧ bytes ≤ 9223372036854775807) :
    Calls Tryz.prog 3 #[.int .i64 x, v1, .int .i64 y, .agg (crashV vk torn bytes)] w fun e w' => e = .returned (.bool true) ∧ Below w.heap.size w w' := by
  by_cases h0 : 80 < x
  · exact walk_great1 w x v1 len f y vk keep torn bytes hl hy hk h0
  · by_cases h : 12 < len
    · exact walk_great2 w x v1 len f y vk keep torn bytes hl hy hk h0 h
    · by_cases h2 : 100 < keep.length
      · exact walk_great3 w x v1 len f y vk keep torn bytes hl hy hk h0 h h2
      · by_cases h3 : x < 1
        · exact walk_bad w x v1 len f y vk keep torn bytes hl hy hk h0 h (by omega) h3
        · exact walk_ok w x v1 len f y vk keep torn bytes hl hy hk h0 h (by omega) (by omega)

set_option maxRecDepth 100000 in
theorem lifted (os : Os) (started : os.Started) (H : Type) (enc : TypeId × Value → H) :
    ReturnsInHanded {} Tryz.checked os 3 .any (fun w args => (Rows.rootDiskSpec.pre enc Tryz.prog Tryz.f3 Rows.rootDiskRow.domain false w args ∧ laidMetH Tryz.prog Rows.rootDiskRow.laid w) ∧ sizedMet enc Tryz.prog Tryz.f3 (OpenSpec.ofChange Rows.rootDiskSpec) false w args) (Rows.rootDiskSpec.post enc Tryz.prog Tryz.f3 false true false false) := by
  refine returnsInHanded_of_change_and (C := Tryz.checked) (X := fun w _ => laidMetH Tryz.prog Rows.rootDiskRow.laid w) (fun _ _ _ hh h => h.of_heap hh) ownKnobs started (by kernel_rfl) Tryz.func3
    (ChangeSpec.witness_shaped (enc := enc) (C := Tryz.checked) (os := os) (X := fun w _ => laidMetH Tryz.prog Rows.rootDiskRow.laid w) false (World.laidAll Tryz.prog os Rows.rootDiskRow.laid) #[.int .i64 0, .slice none 0 0, .int .i64 0, .agg (crashV (.slice none 0 0) 0 0)] 8 (World.laidAll_os _ _ _)
      (World.shaped_of_ZipB (by kernel_rfl) (by kernel_rfl)) (by kernel_rfl) (by kernel_rfl) (by kernel_rfl)
      (by rw [MakeChecks.laidMetH_plain _ _ _ (by kernel_rfl)]; exact laidMet_laidAll _ (by kernel_rfl) (by kernel_rfl))) ?_
  intro W base args ds gs before hval0 hW hcnd _ _ _
  have hval : ∀ (j : Nat) t v, Tryz.f3.params[j]? = some t → args[j]? = some v → Value.okWide Tryz.prog W .any base t v := hval0
  have hW' := hW
  obtain ⟨p, q, hA0, hV, rfl, hfz, hnd⟩ := hW
  have hA : DataW.TrodAll enc Tryz.prog W 0 (fun _ => true) true Tryz.f3.params.toList args.toList ds p := hA0
  rw [Tryz.params3] at hA hval
  obtain ⟨v0, vs0, d0, ds0, p0, q0, hargs, rfl, rfl, h0, r0⟩ := trodAll_cons hA
  obtain ⟨v1, vs1, d1, ds1, p1, q1, rfl, rfl, rfl, h1, r1⟩ := trodAll_cons r0
  obtain ⟨v2, vs2, d2, ds2, p2, q2, rfl, rfl, rfl, h2, r2⟩ := trodAll_cons r1
  obtain ⟨v3, vs3, d3, ds3, p3, q3, rfl, rfl, rfl, h3, r3⟩ := trodAll_cons r2
  obtain ⟨rfl, rfl, rfl⟩ := trodAll_nil r3
  obtain rfl : args = #[v0, v1, v2, v3] := by cases args; simp_all
  obtain ⟨rfl, rfl⟩ := trodVars_none hV
  obtain ⟨a0, rfl, rfl, rfl, w0⟩ := open_int Tryz.underlying3 (hval 0 3 v0 rfl rfl) h0
  have b0 := open_i64 w0
  have k1 := h1
  have lt1 : ∀ x ∈ p1, x.block < W.heap.size := by obtain ⟨m, hm⟩ := k1; exact DataW.trod_lt m _ _ _ hm
  obtain ⟨l1, f1, b1⟩ := open_roots (hval 1 22 v1 rfl rfl) h1
  obtain ⟨a2, rfl, rfl, rfl, w2⟩ := open_int Tryz.underlying3 (hval 2 3 v2 rfl rfl) h2
  have b2 := open_i64 w2
  have k3 := h3
  have lt3 : ∀ x ∈ p3, x.block < W.heap.size := by obtain ⟨m, hm⟩ := k3; exact DataW.trod_lt m _ _ _ hm
  obtain ⟨vk3, kp3, to3, by3, rfl, b3, bt3, bb3⟩ := open_crash (hval 3 25 v3 rfl rfl) h3
  clear hA0 hval0
  refine (walk W a0 v1 l1 f1 a2 vk3 kp3 to3 by3 b0 b1 b2 b3 bt3 bb3).mono fun e W' ⟨he, bel⟩ => ?_
  subst he
  exact ⟨_, rfl, _, _, _, [], _, [], hW', trodAll_mk1 (shut_bool Tryz.underlying4 _), (trodAll_cons_mk (shut_int Tryz.underlying3 w0) (trodAll_cons_mk (Below.trod laidOuts (by kernel_rfl) (of_decide_eq_true (by kernel_rfl)) k1 bel lt1) (trodAll_cons_mk (shut_int Tryz.underlying3 w2) (trodAll_cons_mk (Below.trod laidOuts (by kernel_rfl) (of_decide_eq_true (by kernel_rfl)) k3 bel lt3) trodAll_mk0)))), rfl, bel.frame _, fun h => by cases h⟩

theorem over : Rows.rootDiskRow.holds Tryz.pinned (OpenSpec.ofChange Rows.rootDiskSpec) :=
  OpenClaim.holds_of_wide 3 Tryz.f3 rfl rfl rfl rfl rfl rfl rfl ⟨rfl, rfl, rfl, rfl, rfl⟩ rfl rfl rfl rfl rfl (by kernel_rfl) Tryz.func3 (by kernel_rfl)
    (of_decide_eq_true (by kernel_rfl)) (by unfold Func.isWrapper; first | (rw [if_pos (by decide +kernel)]; kernel_rfl) | (rw [if_neg (by decide +kernel)]; exact ⟨rfl, rfl⟩))
    (fun os started H enc _ => lifted os started H enc)

theorem proved : Rows.RootDiskCardSaid :=
  Claim7.holds_tied_plain_at .later [] [.data, .pinned] true Rows.rootDiskCard.stood.harness false over (fun _ h => by cases h) (by kernel_rfl) (fun _ h => by cases h) rootDisk_row_tie rfl ⟨rfl, rfl⟩ (by kernel_rfl) rfl
    (fun f fn hf hfn => by
      obtain rfl : f = 3 := Option.some.inj ((show Tryz.prog.funcNamed "tallyman/tallymanlaw06.RootDisk" = some 3 by kernel_rfl).symm.trans hf) |>.symm
      obtain rfl : fn = Tryz.f3 := (Option.some.inj (Tryz.func3.symm.trans hfn)).symm
      exact ⟨by kernel_rfl, fun j t ht => by
        rw [Tryz.params3] at ht
        have hm : t ∈ [3, 22, 3, 25] := by simpa using Array.mem_of_getElem? ht
        have hall : ([3, 22, 3, 25].all fun u => !Tryz.prog.wantsStandIn u) = true := by kernel_rfl
        exact (show Tryz.prog.wantsStandIn t = false by simpa using List.all_eq_true.1 hall t hm)⟩)
    (by kernel_rfl)
#print axioms proved
end Go.Proofs.YteeljcnmgfjcmaaGreatDoor.rootDisk
