/-
  The statement PageApart: pages of unlike Kind, Number or Body have unlike bytes; what stands on the disk is what was saved there last. Conditions: none.
-/
import Derived.Test.YtagchbpofoidmaaDoorPgH
import Derived.Test.YtagchbpofoidmaaDoorPgQ
namespace Go.Proofs.YtagchbpofoidmaaDoor.pageApart
open Go.ChangeShapes Go.WideShapes Go.ChangeAt Go.RowKit Go.Maps
set_option maxRecDepth 100000
set_option linter.unusedVariables false

set_option maxRecDepth 100000 in
set_option maxHeartbeats 40000000 in
theorem walk_great (w : World) (k : Int) (n : Nat) (vb : Value) (l : List UInt8) (k2 : Int) (n2 : Nat) (vb2 : Value) (l2 : List UInt8) (x y : Int) (hv : Byt w vb l) (hv2 : Byt w vb2 l2) (hn : n < 4294967296) (hn2 : n2 < 4294967296) (h : 5000 < l.length ∨ 5000 < l2.length) :
    Calls Tryd.prog 8 #[.agg (pageV k (n : Int) vb), .agg (pageV k2 (n2 : Int) vb2), .int .i64 x, .int .i64 y] w fun e w' => e = .returned (.bool true) ∧ Below w.heap.size w w' := by
  obtain ⟨A, m, c, rfl, N, hnc, hcm⟩ := hv.form
  obtain ⟨A2, m2, c2, rfl, N2, hnc2, hcm2⟩ := hv2.form
  obtain ⟨wa, hwa⟩ : ∃ wa, w.alloc (.cells (pageV k n (.slice A m c)) 28) = wa := ⟨_, rfl⟩
  obtain ⟨w0, hw0⟩ : ∃ w0, wa.alloc (.cells (pageV k2 n2 (.slice A2 m2 c2)) 28) = w0 := ⟨_, rfl⟩
  have hba : Below w.heap.size w wa := hwa ▸ below_new w _
  have hb0 : Below wa.heap.size wa w0 := hw0 ▸ below_new wa _
  have HX0 : Hid (Box w0 w.heap.size k n (.slice A m c)) := (hwa ▸ Box.new w k n _ : Box wa _ _ _ _).below hb0
  have HY0 : Hid (Box w0 (w.heap.size + 1) k2 n2 (.slice A2 m2 c2)) := by
    have : Box w0 wa.heap.size k2 n2 (.slice A2 m2 c2) := hw0 ▸ Box.new wa k2 n2 _
    rw [show wa.heap.size = w.heap.size + 1 by rw [← hwa]; simp] at this
    exact this
  have HB0 : Hid (Below w.heap.size w w0) := hba.trans (hb0.mono hba.size)
  have HW0 : Hid ((w.alloc (.cells (pageV k n (.slice A m c)) 28)).alloc (.cells (pageV k2 n2 (.slice A2 m2 c2)) 28) = w0) := by rw [Hid, hwa, hw0]
  have HV := Lib.hid hv
  have HV2 := Lib.hid hv2
  have HN := Lib.hid hn
  have HN2 := Lib.hid hn2
  unfold pageV at HW0 ⊢
  clear hv hv2 hw0 hwa hba hb0
  by_cases h1 : (5000 : Int) < (m : Int)
  · clear h
    go_enter Tryd.func8, Tryd.ntmps8
    go_wp2_with fail
    rw [HW0.out]
    refine (lives5_any _).mono ?_
    rintro e w1 ⟨rfl, hb1⟩
    have HX1 := Lib.hid (HX0.out.below hb1)
    have HY1 := Lib.hid (HY0.out.below hb1)
    have HB1 := Lib.hid (HB0.out.trans (hb1.mono HB0.out.size))
    obtain ⟨d0, d1, d2⟩ := HX1.out.cells
    obtain ⟨e0, e1, e2⟩ := HY1.out.cells
    clear hb1
    go_wp2_with fail
    go_ret
    exact ⟨rfl, HB1.out⟩
  · have h2 : (5000 : Int) < (m2 : Int) := by have := N.out; have := N2.out; omega
    clear h
    go_enter Tryd.func8, Tryd.ntmps8
    go_wp2_with fail
    rw [HW0.out]
    refine (lives5_any _).mono ?_
    rintro e w1 ⟨rfl, hb1⟩
    have HX1 := Lib.hid (HX0.out.below hb1)
    have HY1 := Lib.hid (HY0.out.below hb1)
    have HB1 := Lib.hid (HB0.out.trans (hb1.mono HB0.out.size))
    obtain ⟨d0, d1, d2⟩ := HX1.out.cells
    obtain ⟨e0, e1, e2⟩ := HY1.out.cells
    clear hb1
    go_wp2_with fail
    go_ret
    exact ⟨rfl, HB1.out⟩
set_option maxRecDepth 100000 in
set_option maxHeartbeats 40000000 in
theorem walk_bb (w : World) (k : Int) (n : Nat) (vb : Value) (l : List UInt8) (k2 : Int) (n2 : Nat) (vb2 : Value) (l2 : List UInt8) (x y : Int) (hv : Byt w vb l) (hv2 : Byt w vb2 l2) (hn : n < 4294967296) (hn2 : n2 < 4294967296) (hl : l.length ≤ 5000) (hl2 : l2.length ≤ 5000) (hk : ¬ ((1 ≤ k ∧ k ≤ 7) ∧ l.length ≤ 4080)) (hk2 : ¬ ((1 ≤ k2 ∧ k2 ≤ 7) ∧ l2.length ≤ 4080)) :
    Calls Tryd.prog 8 #[.agg (pageV k (n : Int) vb), .agg (pageV k2 (n2 : Int) vb2), .int .i64 x, .int .i64 y] w fun e w' => e = .returned (.bool true) ∧ Below w.heap.size w w' := by
  obtain ⟨A, m, c, rfl, N, hnc, hcm⟩ := hv.form
  obtain ⟨A2, m2, c2, rfl, N2, hnc2, hcm2⟩ := hv2.form
  obtain ⟨wa, hwa⟩ : ∃ wa, w.alloc (.cells (pageV k n (.slice A m c)) 28) = wa := ⟨_, rfl⟩
  obtain ⟨w0, hw0⟩ : ∃ w0, wa.alloc (.cells (pageV k2 n2 (.slice A2 m2 c2)) 28) = w0 := ⟨_, rfl⟩
  have hba : Below w.heap.size w wa := hwa ▸ below_new w _
  have hb0 : Below wa.heap.size wa w0 := hw0 ▸ below_new wa _
  have HX0 : Hid (Box w0 w.heap.size k n (.slice A m c)) := (hwa ▸ Box.new w k n _ : Box wa _ _ _ _).below hb0
  have HY0 : Hid (Box w0 (w.heap.size + 1) k2 n2 (.slice A2 m2 c2)) := by
    have : Box w0 wa.heap.size k2 n2 (.slice A2 m2 c2) := hw0 ▸ Box.new wa k2 n2 _
    rw [show wa.heap.size = w.heap.size + 1 by rw [← hwa]; simp] at this
    exact this
  have HB0 : Hid (Below w.heap.size w w0) := hba.trans (hb0.mono hba.size)
  have HW0 : Hid ((w.alloc (.cells (pageV k n (.slice A m c)) 28)).alloc (.cells (pageV k2 n2 (.slice A2 m2 c2)) 28) = w0) := by rw [Hid, hwa, hw0]
  have HV := Lib.hid hv
  have HV2 := Lib.hid hv2
  have HN := Lib.hid hn
  have HN2 := Lib.hid hn2
  unfold pageV at HW0 ⊢
  clear hv hv2 hw0 hwa hba hb0
  have h1 : ¬ (5000 : Int) < (m : Int) := by have := N.out; omega
  have h2 : ¬ (5000 : Int) < (m2 : Int) := by have := N2.out; omega
  clear hl hl2
  go_enter Tryd.func8, Tryd.ntmps8
  go_wp2_with fail
  rw [HW0.out]
  refine (lives5_any _).mono ?_
  rintro e w1 ⟨rfl, hb1⟩
  have HX1 := Lib.hid (HX0.out.below hb1)
  have HY1 := Lib.hid (HY0.out.below hb1)
  have HB1 := Lib.hid (HB0.out.trans (hb1.mono HB0.out.size))
  obtain ⟨d0, d1, d2⟩ := HX1.out.cells
  obtain ⟨e0, e1, e2⟩ := HY1.out.cells
  clear hb1
  go_wp2_with fail
  clear d0 d1 d2 e0 e1 e2
  refine (bytes_bad _ k n _ l (HV.out.below HB1.out) hk).mono ?_
  rintro e w2 ⟨rfl, hb2⟩
  have HX2 := Lib.hid (HX1.out.below hb2)
  have HY2 := Lib.hid (HY1.out.below hb2)
  have HB2 := Lib.hid (HB1.out.trans (hb2.mono HB1.out.size))
  obtain ⟨d0, d1, d2⟩ := HY2.out.cells
  clear hb2
  go_wp2_with fail
  clear d0 d1 d2
  refine (bytes_bad _ k2 n2 _ l2 (HV2.out.below HB2.out) hk2).mono ?_
  rintro e w3 ⟨rfl, hb3⟩
  have HX3 := Lib.hid (HX2.out.below hb3)
  have HY3 := Lib.hid (HY2.out.below hb3)
  have HB3 := Lib.hid (HB2.out.trans (hb3.mono HB2.out.size))
  clear hb3
  go_wp2_with fail
  go_ret
  exact ⟨rfl, HB3.out⟩
set_option maxRecDepth 100000 in
set_option maxHeartbeats 40000000 in
theorem walk_bo (w : World) (k : Int) (n : Nat) (vb : Value) (l : List UInt8) (k2 : Int) (n2 : Nat) (vb2 : Value) (l2 : List UInt8) (x y : Int) (hv : Byt w vb l) (hv2 : Byt w vb2 l2) (hn : n < 4294967296) (hn2 : n2 < 4294967296) (hl : l.length ≤ 5000) (hl2 : l2.length ≤ 5000) (hk : ¬ ((1 ≤ k ∧ k ≤ 7) ∧ l.length ≤ 4080)) (hk2 : ((1 ≤ k2 ∧ k2 ≤ 7) ∧ l2.length ≤ 4080)) :
    Calls Tryd.prog 8 #[.agg (pageV k (n : Int) vb), .agg (pageV k2 (n2 : Int) vb2), .int .i64 x, .int .i64 y] w fun e w' => e = .returned (.bool true) ∧ Below w.heap.size w w' := by
  obtain ⟨A, m, c, rfl, N, hnc, hcm⟩ := hv.form
  obtain ⟨A2, m2, c2, rfl, N2, hnc2, hcm2⟩ := hv2.form
  obtain ⟨wa, hwa⟩ : ∃ wa, w.alloc (.cells (pageV k n (.slice A m c)) 28) = wa := ⟨_, rfl⟩
  obtain ⟨w0, hw0⟩ : ∃ w0, wa.alloc (.cells (pageV k2 n2 (.slice A2 m2 c2)) 28) = w0 := ⟨_, rfl⟩
  have hba : Below w.heap.size w wa := hwa ▸ below_new w _
  have hb0 : Below wa.heap.size wa w0 := hw0 ▸ below_new wa _
  have HX0 : Hid (Box w0 w.heap.size k n (.slice A m c)) := (hwa ▸ Box.new w k n _ : Box wa _ _ _ _).below hb0
  have HY0 : Hid (Box w0 (w.heap.size + 1) k2 n2 (.slice A2 m2 c2)) := by
    have : Box w0 wa.heap.size k2 n2 (.slice A2 m2 c2) := hw0 ▸ Box.new wa k2 n2 _
    rw [show wa.heap.size = w.heap.size + 1 by rw [← hwa]; simp] at this
    exact this
  have HB0 : Hid (Below w.heap.size w w0) := hba.trans (hb0.mono hba.size)
  have HW0 : Hid ((w.alloc (.cells (pageV k n (.slice A m c)) 28)).alloc (.cells (pageV k2 n2 (.slice A2 m2 c2)) 28) = w0) := by rw [Hid, hwa, hw0]
  have HV := Lib.hid hv
  have HV2 := Lib.hid hv2
  have HN := Lib.hid hn
  have HN2 := Lib.hid hn2
  unfold pageV at HW0 ⊢
  clear hv hv2 hw0 hwa hba hb0
  obtain ⟨kk2, rfl⟩ : ∃ kk2 : Nat, k2 = (kk2 : Int) := ⟨k2.toNat, by omega⟩
  have HK21 : Hid (1 ≤ kk2) := by rw [Hid]; omega
  have HK27 : Hid (kk2 ≤ 7) := by rw [Hid]; omega
  have HL2 : Hid (l2.length ≤ 4080) := hk2.2
  have h1 : ¬ (5000 : Int) < (m : Int) := by have := N.out; omega
  have h2 : ¬ (5000 : Int) < (m2 : Int) := by have := N2.out; omega
  clear hl hl2
  go_enter Tryd.func8, Tryd.ntmps8
  go_wp2_with fail
  rw [HW0.out]
  refine (lives5_any _).mono ?_
  rintro e w1 ⟨rfl, hb1⟩
  have HX1 := Lib.hid (HX0.out.below hb1)
  have HY1 := Lib.hid (HY0.out.below hb1)
  have HB1 := Lib.hid (HB0.out.trans (hb1.mono HB0.out.size))
  obtain ⟨d0, d1, d2⟩ := HX1.out.cells
  obtain ⟨e0, e1, e2⟩ := HY1.out.cells
  clear hb1
  go_wp2_with fail
  clear d0 d1 d2 e0 e1 e2
  refine (bytes_bad _ k n _ l (HV.out.below HB1.out) hk).mono ?_
  rintro e w2 ⟨rfl, hb2⟩
  have HX2 := Lib.hid (HX1.out.below hb2)
  have HY2 := Lib.hid (HY1.out.below hb2)
  have HB2 := Lib.hid (HB1.out.trans (hb2.mono HB1.out.size))
  obtain ⟨d0, d1, d2⟩ := HY2.out.cells
  clear hb2
  go_wp2_with fail
  clear d0 d1 d2
  refine (bytes_ok _ kk2 n2 _ l2 (HV2.out.below HB2.out) HK21.out HK27.out HL2.out HN2.out).mono ?_
  rintro e w3 ⟨vc, rfl, hown3, hb3⟩
  have HX3 := Lib.hid (HX2.out.below hb3)
  have HY3 := Lib.hid (HY2.out.below hb3)
  have HB3 := Lib.hid (HB2.out.trans (hb3.mono HB2.out.size))
  have HC3 := Lib.hid hown3.byt
  obtain ⟨Ac, nc, cc, rfl, Nc, hncc, hcmc⟩ := hown3.byt.form
  have HCL : Hid (∀ k, (Value.slice Ac nc cc).ownBlock = some k → k < w3.heap.size) := fun k e => by
    obtain ⟨c2, h2⟩ := ownsRow_block (hown3.lower (Nat.zero_le _)) e
    exact (Array.getElem?_eq_some_iff.1 h2).1
  clear hown3
  clear hb3
  go_wp2_with fail
  go_ret
  exact ⟨rfl, HB3.out⟩
set_option maxRecDepth 100000 in
set_option maxHeartbeats 40000000 in
theorem walk_ob (w : World) (k : Int) (n : Nat) (vb : Value) (l : List UInt8) (k2 : Int) (n2 : Nat) (vb2 : Value) (l2 : List UInt8) (x y : Int) (hv : Byt w vb l) (hv2 : Byt w vb2 l2) (hn : n < 4294967296) (hn2 : n2 < 4294967296) (hl : l.length ≤ 5000) (hl2 : l2.length ≤ 5000) (hk : ((1 ≤ k ∧ k ≤ 7) ∧ l.length ≤ 4080)) (hk2 : ¬ ((1 ≤ k2 ∧ k2 ≤ 7) ∧ l2.length ≤ 4080)) :
    Calls Tryd.prog 8 #[.agg (pageV k (n : Int) vb), .agg (pageV k2 (n2 : Int) vb2), .int .i64 x, .int .i64 y] w fun e w' => e = .returned (.bool true) ∧ Below w.heap.size w w' := by
  obtain ⟨A, m, c, rfl, N, hnc, hcm⟩ := hv.form
  obtain ⟨A2, m2, c2, rfl, N2, hnc2, hcm2⟩ := hv2.form
  obtain ⟨wa, hwa⟩ : ∃ wa, w.alloc (.cells (pageV k n (.slice A m c)) 28) = wa := ⟨_, rfl⟩
  obtain ⟨w0, hw0⟩ : ∃ w0, wa.alloc (.cells (pageV k2 n2 (.slice A2 m2 c2)) 28) = w0 := ⟨_, rfl⟩
  have hba : Below w.heap.size w wa := hwa ▸ below_new w _
  have hb0 : Below wa.heap.size wa w0 := hw0 ▸ below_new wa _
  have HX0 : Hid (Box w0 w.heap.size k n (.slice A m c)) := (hwa ▸ Box.new w k n _ : Box wa _ _ _ _).below hb0
  have HY0 : Hid (Box w0 (w.heap.size + 1) k2 n2 (.slice A2 m2 c2)) := by
    have : Box w0 wa.heap.size k2 n2 (.slice A2 m2 c2) := hw0 ▸ Box.new wa k2 n2 _
    rw [show wa.heap.size = w.heap.size + 1 by rw [← hwa]; simp] at this
    exact this
  have HB0 : Hid (Below w.heap.size w w0) := hba.trans (hb0.mono hba.size)
  have HW0 : Hid ((w.alloc (.cells (pageV k n (.slice A m c)) 28)).alloc (.cells (pageV k2 n2 (.slice A2 m2 c2)) 28) = w0) := by rw [Hid, hwa, hw0]
  have HV := Lib.hid hv
  have HV2 := Lib.hid hv2
  have HN := Lib.hid hn
  have HN2 := Lib.hid hn2
  unfold pageV at HW0 ⊢
  clear hv hv2 hw0 hwa hba hb0
  obtain ⟨kk, rfl⟩ : ∃ kk : Nat, k = (kk : Int) := ⟨k.toNat, by omega⟩
  have HK1 : Hid (1 ≤ kk) := by rw [Hid]; omega
  have HK7 : Hid (kk ≤ 7) := by rw [Hid]; omega
  have HL : Hid (l.length ≤ 4080) := hk.2
  have h1 : ¬ (5000 : Int) < (m : Int) := by have := N.out; omega
  have h2 : ¬ (5000 : Int) < (m2 : Int) := by have := N2.out; omega
  clear hl hl2
  go_enter Tryd.func8, Tryd.ntmps8
  go_wp2_with fail
  rw [HW0.out]
  refine (lives5_any _).mono ?_
  rintro e w1 ⟨rfl, hb1⟩
  have HX1 := Lib.hid (HX0.out.below hb1)
  have HY1 := Lib.hid (HY0.out.below hb1)
  have HB1 := Lib.hid (HB0.out.trans (hb1.mono HB0.out.size))
  obtain ⟨d0, d1, d2⟩ := HX1.out.cells
  obtain ⟨e0, e1, e2⟩ := HY1.out.cells
  clear hb1
  go_wp2_with fail
  clear d0 d1 d2 e0 e1 e2
  refine (bytes_ok _ kk n _ l (HV.out.below HB1.out) HK1.out HK7.out HL.out HN.out).mono ?_
  rintro e w2 ⟨va, rfl, hown2, hb2⟩
  have HX2 := Lib.hid (HX1.out.below hb2)
  have HY2 := Lib.hid (HY1.out.below hb2)
  have HB2 := Lib.hid (HB1.out.trans (hb2.mono HB1.out.size))
  have HA2 := Lib.hid hown2.byt
  obtain ⟨Aa, na, ca, rfl, Na, hnca, hcma⟩ := hown2.byt.form
  have HAL : Hid (∀ k, (Value.slice Aa na ca).ownBlock = some k → k < w2.heap.size) := fun k e => by
    obtain ⟨c2, h2⟩ := ownsRow_block (hown2.lower (Nat.zero_le _)) e
    exact (Array.getElem?_eq_some_iff.1 h2).1
  clear hown2
  obtain ⟨d0, d1, d2⟩ := HY2.out.cells
  clear hb2
  go_wp2_with fail
  clear d0 d1 d2
  refine (bytes_bad _ k2 n2 _ l2 (HV2.out.below HB2.out) hk2).mono ?_
  rintro e w3 ⟨rfl, hb3⟩
  have HX3 := Lib.hid (HX2.out.below hb3)
  have HY3 := Lib.hid (HY2.out.below hb3)
  have HB3 := Lib.hid (HB2.out.trans (hb3.mono HB2.out.size))
  clear hb3
  go_wp2_with fail
  go_ret
  exact ⟨rfl, HB3.out⟩
set_option maxRecDepth 100000 in
set_option maxHeartbeats 40000000 in
theorem walk_oo (w : World) (k : Int) (n : Nat) (vb : Value) (l : List UInt8) (k2 : Int) (n2 : Nat) (vb2 : Value) (l2 : List UInt8) (x y : Int) (hv : Byt w vb l) (hv2 : Byt w vb2 l2) (hn : n < 4294967296) (hn2 : n2 < 4294967296) (hl : l.length ≤ 5000) (hl2 : l2.length ≤ 5000) (hk : ((1 ≤ k ∧ k ≤ 7) ∧ l.length ≤ 4080)) (hk2 : ((1 ≤ k2 ∧ k2 ≤ 7) ∧ l2.length ≤ 4080)) :
    Calls Tryd.prog 8 #[.agg (pageV k (n : Int) vb), .agg (pageV k2 (n2 : Int) vb2), .int .i64 x, .int .i64 y] w fun e w' => e = .returned (.bool true) ∧ Below w.heap.size w w' := by
  obtain ⟨A, m, c, rfl, N, hnc, hcm⟩ := hv.form
  obtain ⟨A2, m2, c2, rfl, N2, hnc2, hcm2⟩ := hv2.form
  obtain ⟨wa, hwa⟩ : ∃ wa, w.alloc (.cells (pageV k n (.slice A m c)) 28) = wa := ⟨_, rfl⟩
  obtain ⟨w0, hw0⟩ : ∃ w0, wa.alloc (.cells (pageV k2 n2 (.slice A2 m2 c2)) 28) = w0 := ⟨_, rfl⟩
  have hba : Below w.heap.size w wa := hwa ▸ below_new w _
  have hb0 : Below wa.heap.size wa w0 := hw0 ▸ below_new wa _
  have HX0 : Hid (Box w0 w.heap.size k n (.slice A m c)) := (hwa ▸ Box.new w k n _ : Box wa _ _ _ _).below hb0
  have HY0 : Hid (Box w0 (w.heap.size + 1) k2 n2 (.slice A2 m2 c2)) := by
    have : Box w0 wa.heap.size k2 n2 (.slice A2 m2 c2) := hw0 ▸ Box.new wa k2 n2 _
    rw [show wa.heap.size = w.heap.size + 1 by rw [← hwa]; simp] at this
    exact this
  have HB0 : Hid (Below w.heap.size w w0) := hba.trans (hb0.mono hba.size)
  have HW0 : Hid ((w.alloc (.cells (pageV k n (.slice A m c)) 28)).alloc (.cells (pageV k2 n2 (.slice A2 m2 c2)) 28) = w0) := by rw [Hid, hwa, hw0]
  have HV := Lib.hid hv
  have HV2 := Lib.hid hv2
  have HN := Lib.hid hn
  have HN2 := Lib.hid hn2
  unfold pageV at HW0 ⊢
  clear hv hv2 hw0 hwa hba hb0
  obtain ⟨kk, rfl⟩ : ∃ kk : Nat, k = (kk : Int) := ⟨k.toNat, by omega⟩
  have HK1 : Hid (1 ≤ kk) := by rw [Hid]; omega
  have HK7 : Hid (kk ≤ 7) := by rw [Hid]; omega
  have HL : Hid (l.length ≤ 4080) := hk.2
  obtain ⟨kk2, rfl⟩ : ∃ kk2 : Nat, k2 = (kk2 : Int) := ⟨k2.toNat, by omega⟩
  have HK21 : Hid (1 ≤ kk2) := by rw [Hid]; omega
  have HK27 : Hid (kk2 ≤ 7) := by rw [Hid]; omega
  have HL2 : Hid (l2.length ≤ 4080) := hk2.2
  have h1 : ¬ (5000 : Int) < (m : Int) := by have := N.out; omega
  have h2 : ¬ (5000 : Int) < (m2 : Int) := by have := N2.out; omega
  clear hl hl2
  go_enter Tryd.func8, Tryd.ntmps8
  go_wp2_with fail
  rw [HW0.out]
  refine (lives5_any _).mono ?_
  rintro e w1 ⟨rfl, hb1⟩
  have HX1 := Lib.hid (HX0.out.below hb1)
  have HY1 := Lib.hid (HY0.out.below hb1)
  have HB1 := Lib.hid (HB0.out.trans (hb1.mono HB0.out.size))
  obtain ⟨d0, d1, d2⟩ := HX1.out.cells
  obtain ⟨e0, e1, e2⟩ := HY1.out.cells
  clear hb1
  go_wp2_with fail
  clear d0 d1 d2 e0 e1 e2
  refine (bytes_ok _ kk n _ l (HV.out.below HB1.out) HK1.out HK7.out HL.out HN.out).mono ?_
  rintro e w2 ⟨va, rfl, hown2, hb2⟩
  have HX2 := Lib.hid (HX1.out.below hb2)
  have HY2 := Lib.hid (HY1.out.below hb2)
  have HB2 := Lib.hid (HB1.out.trans (hb2.mono HB1.out.size))
  have HA2 := Lib.hid hown2.byt
  obtain ⟨Aa, na, ca, rfl, Na, hnca, hcma⟩ := hown2.byt.form
  have HAL : Hid (∀ k, (Value.slice Aa na ca).ownBlock = some k → k < w2.heap.size) := fun k e => by
    obtain ⟨c2, h2⟩ := ownsRow_block (hown2.lower (Nat.zero_le _)) e
    exact (Array.getElem?_eq_some_iff.1 h2).1
  clear hown2
  obtain ⟨d0, d1, d2⟩ := HY2.out.cells
  clear hb2
  go_wp2_with fail
  clear d0 d1 d2
  refine (bytes_ok _ kk2 n2 _ l2 (HV2.out.below HB2.out) HK21.out HK27.out HL2.out HN2.out).mono ?_
  rintro e w3 ⟨vc, rfl, hown3, hb3⟩
  have HX3 := Lib.hid (HX2.out.below hb3)
  have HY3 := Lib.hid (HY2.out.below hb3)
  have HB3 := Lib.hid (HB2.out.trans (hb3.mono HB2.out.size))
  have HC3 := Lib.hid hown3.byt
  obtain ⟨Ac, nc, cc, rfl, Nc, hncc, hcmc⟩ := hown3.byt.form
  have HCL : Hid (∀ k, (Value.slice Ac nc cc).ownBlock = some k → k < w3.heap.size) := fun k e => by
    obtain ⟨c2, h2⟩ := ownsRow_block (hown3.lower (Nat.zero_le _)) e
    exact (Array.getElem?_eq_some_iff.1 h2).1
  have HB23 := Lib.hid hb3
  clear hown3
  clear hb3
  have HA3 := Lib.hid (HA2.out.below (w' := w3) HB23.out)
  have HAL3 : Hid (∀ k, (Value.slice Aa na ca).ownBlock = some k → k < w3.heap.size) := fun k e => by have := HAL.out k e; have := HB23.out.size; omega
  have HLA : Hid ((pageB kk n l).length = 4096) := pageB_len HL.out
  have HLB : Hid ((pageB kk2 n2 l2).length = 4096) := pageB_len HL2.out
  have HE : Hid (decide ((kk : Int) = (kk2 : Int) ∧ (n : Int) = (n2 : Int) ∧ trimR l = trimR l2) = decide (pageB kk n l = pageB kk2 n2 l2)) := by
    rw [Hid]
    refine decide_eq_decide.2 ?_
    rw [pageB_iff (by have := HK7.out; omega) (by have := HK27.out; omega) HN.out HN2.out HL.out HL2.out]
    constructor <;> (rintro ⟨h1, h2, h3⟩; exact ⟨by omega, by omega, h3⟩)
  generalize pageB kk n l = la at *
  generalize pageB kk2 n2 l2 = lb at *
  obtain rfl : na = 4096 := Na.out.trans HLA.out
  obtain rfl : nc = 4096 := Nc.out.trans HLB.out
  obtain ⟨sa, sb, HTA, HTB, E1⟩ : ∃ sa sb : ByteArray, Hid (∀ W v, Byt W v la → (convert 22 9 v).run Tryd.prog W = .ok (.string sa) W) ∧ Hid (∀ W v, Byt W v lb → (convert 22 9 v).run Tryd.prog W = .ok (.string sb) W) ∧ (sa.toList == sb.toList) = decide (la = lb) := ⟨_, _, fun W v h => text_of h, fun W v h => text_of h, bytes_eq la lb⟩
  generalize decide (la = lb) = q at *
  have ha1 := Int.emod_nonneg x (show (5 : Int) ≠ 0 by omega)
  have ha2 := Int.emod_lt_of_pos x (show (0 : Int) < 5 by omega)
  have hb1 := Int.emod_nonneg y (show (5 : Int) ≠ 0 by omega)
  have hb2 := Int.emod_lt_of_pos y (show (0 : Int) < 5 by omega)
  obtain ⟨i, hi⟩ : ∃ i : Nat, x % 5 = (i : Int) := ⟨(x % 5).toNat, by omega⟩
  obtain ⟨j, hj⟩ : ∃ j : Nat, y % 5 = (j : Int) := ⟨(y % 5).toNat, by omega⟩
  have hi5 : i < 5 := by omega
  have hj5 : j < 5 := by omega
  obtain ⟨s1, s2, s3, p1, p2, p3, p4, p5, p6, p7, p8, p9⟩ := apart_plain hi5 hj5 HLA.out HLB.out
  have HP1 := Lib.hid p1
  have HP2 := Lib.hid p2
  have HP3 := Lib.hid p3
  have HP4 := Lib.hid p4
  have HP6 := Lib.hid p6
  have HP7 := Lib.hid p7
  have HP8 := Lib.hid p8
  have HP9 := Lib.hid p9
  have HPI := Lib.hid (pick_any x 5)
  have HPJ := Lib.hid (pick_any y 5)
  rw [hi] at HPI
  rw [hj] at HPJ
  obtain ⟨wl, HWL⟩ : ∃ wl, Hid ((if i = j then lb else la) = wl) := ⟨_, rfl⟩
  have HP5 : Hid (loadP s3 (i : Int) = (wl, 0, s3)) := by
    rw [Hid, ← HWL.out]
    by_cases h : i = j
    · rw [if_pos h, h]; exact p6
    · rw [if_neg h]; exact p5 h
  clear p1 p2 p3 p4 p5 p6 p7 p8 p9 ha1 ha2 hb1 hb2 hi hj
  go_wp2_with fail
  refine (snew_any w3 43 (by omega) (by omega)).mono ?_
  rintro e w4 ⟨g, rfl, hdk4, hb4⟩
  obtain ⟨S, hS⟩ : ∃ S : Nat → Prop, S = fun k => w3.heap.size ≤ k ∧ k < w4.heap.size := ⟨_, rfl⟩
  rw [← hS] at hdk4
  have HS : Hid (∀ k, S k → w3.heap.size ≤ k) := fun k hk => by rw [hS] at hk; exact hk.1
  have HDd : Hid (Dsk w4.drew S g (newS 43)) := hdk4.below (Below.refl _ _).drew
  have HZd : Hid (Below w3.heap.size w3 w4.drew) := hb4.drew
  have HBd : Hid (Below w.heap.size w w4.drew) := HB3.out.trans (hb4.drew.mono HB3.out.size)
  have HXd : Hid (Box w4.drew w.heap.size kk n (.slice A m c)) := HX3.out.below hb4.drew
  have HYd : Hid (Box w4.drew (w.heap.size + 1) kk2 n2 (.slice A2 m2 c2)) := HY3.out.below hb4.drew
  have HAd : Hid (Byt w4.drew (.slice Aa 4096 ca) la) := HA3.out.below hb4.drew
  have HCd : Hid (Byt w4.drew (.slice Ac 4096 cc) lb) := HC3.out.below hb4.drew
  clear hdk4 hb4 hS
  go_wp2_with fail
  refine wp_region_R (R := fun x y => Below x.heap.size x y) (by kernel_rfl) (fun _ => Below.refl _ _) (fun h k => h.trans (k.mono h.size)) (by kernel_rfl) (fun d v c a w h => by cases d <;> exact h)
    [(0, false), (1, false), (2, false), (3, false), (4, false), (5, false), (6, false), (7, false), (8, false), (9, false), (10, true), (11, false), (12, false)] rfl (by kernel_rfl) (by kernel_rfl) ?_
  simp only [sel, List.getElem?_toArray, List.getElem?_cons_succ, List.getElem?_cons_zero]
  generalize w4.drew = wd at *
  iterate 4 (refine sch_take ?_ rfl ?_ ?_; rotate_left; (focus (intro u hu; go_simp <;> rfl)); simp only [Act.put, List.setIfInBounds_toArray, List.set_cons_zero, List.set_cons_succ])
  (refine sch_take ?_ rfl ?_ ?_; rotate_left; (focus (intro u hu; have tt := HTA.out _ _ (HAd.out.below hu); clear hu; go_simp <;> rfl)); simp only [Act.put, List.setIfInBounds_toArray, List.set_cons_zero, List.set_cons_succ])
  (refine sch_take ?_ rfl ?_ ?_; rotate_left; (focus (intro u hu; go_simp <;> rfl)); simp only [Act.put, List.setIfInBounds_toArray, List.set_cons_zero, List.set_cons_succ])
  (refine sch_take ?_ rfl ?_ ?_; rotate_left; (focus (intro u hu; have tt := HTB.out _ _ (HCd.out.below hu); clear hu; go_simp <;> rfl)); simp only [Act.put, List.setIfInBounds_toArray, List.set_cons_zero, List.set_cons_succ])
  (refine sch_take ?_ rfl ?_ ?_; rotate_left; (focus (intro u hu; go_simp <;> rfl)); simp only [Act.put, List.setIfInBounds_toArray, List.set_cons_zero, List.set_cons_succ])
  (refine sch_take ?_ rfl ?_ ?_; rotate_left; (focus (intro u hu; have cc := (HXd.out.below hu).cells; obtain ⟨c0, c1, c2⟩ := cc; clear hu; go_simp <;> rfl)); simp only [Act.put, List.setIfInBounds_toArray, List.set_cons_zero, List.set_cons_succ])
  (refine sch_take ?_ rfl ?_ ?_; rotate_left; (focus (intro u hu; have cc := (HYd.out.below hu).cells; obtain ⟨c0, c1, c2⟩ := cc; clear hu; go_simp <;> rfl)); simp only [Act.put, List.setIfInBounds_toArray, List.set_cons_zero, List.set_cons_succ])
  refine sch_call rfl ?_
  intro K hK
  go_simp
  refine (same_any _ (kk : Int) (n : Int) (kk2 : Int) (n2 : Int) _ _ l l2 (HV.out.below HBd.out) (HV2.out.below HBd.out)).mono ?_
  rintro e w5 ⟨rfl, hb5⟩; rw [HE.out]
  go_wp2_with fail
  refine hK _ _ hb5 ?_
  clear hK K
  have HD5 := Lib.hid (HDd.out.below hb5)
  have HZ5 := Lib.hid (HZd.out.trans (hb5.mono HZd.out.size))
  clear hb5
  iterate 2 (refine sch_take ?_ rfl ?_ ?_; rotate_left; (focus (intro u hu; go_simp <;> rfl)); simp only [Act.put, List.setIfInBounds_toArray, List.set_cons_zero, List.set_cons_succ])
  refine sch_nil ?_
  go_wp2_with fail
  refine (HPI.out _ (by omega) (by omega)).mono ?_
  rintro e w6 ⟨rfl, rfl⟩
  go_wp2_with fail
  refine (HPJ.out _ (by omega) (by omega)).mono ?_
  rintro e w6 ⟨rfl, rfl⟩
  go_wp2_with fail
  have HSV := Lib.hid (save_is w5 S g _ (i : Int) (.slice Aa 4096 ca) la HD5.out (HA3.out.below HZ5.out) (fun k e h => by have := HAL3.out k e; have := HS.out k h; omega) (fun k e => by have := HAL3.out k e; have := HZ5.out.size; omega))
  rw [HP1.out] at HSV
  refine HSV.out.mono ?_
  rintro e w6 hdn
  obtain ⟨rfl, ⟨S6, hd6, hS6⟩, hz6⟩ := done_own hdn HZ5.out.size HS.out
  have HD6 := Lib.hid hd6
  have HS6 := Lib.hid hS6
  have HZ6 := Lib.hid (HZ5.out.trans hz6)
  clear hdn hd6 hS6 hz6 HSV
  go_wp2_with fail
  have HSV := Lib.hid (save_is w6 S6 g _ (j : Int) (.slice Ac 4096 cc) lb HD6.out (HC3.out.below HZ6.out) (fun k e h => by have := HCL.out k e; have := HS6.out k h; omega) (fun k e => by have := HCL.out k e; have := HZ6.out.size; omega))
  rw [HP2.out] at HSV
  refine HSV.out.mono ?_
  rintro e w7 hdn
  obtain ⟨rfl, ⟨S7, hd7, hS7⟩, hz7⟩ := done_own hdn HZ6.out.size HS6.out
  have HD7 := Lib.hid hd7
  have HS7 := Lib.hid hS7
  have HZ7 := Lib.hid (HZ6.out.trans hz7)
  clear hdn hd7 hS7 hz7 HSV
  go_wp2_with fail
  have HFL := Lib.hid (flush0 HD7.out HP3.out)
  rw [HP4.out] at HFL
  refine HFL.out.mono ?_
  rintro e w8 hdn
  obtain ⟨rfl, ⟨S8, hd8, hS8⟩, hz8⟩ := done_own hdn HZ7.out.size HS7.out
  have HD8 := Lib.hid hd8
  have HS8 := Lib.hid hS8
  have HZ8 := Lib.hid (HZ7.out.trans hz8)
  clear hdn hd8 hS8 hz8 HFL
  go_wp2_with fail
  have HLD := Lib.hid (load_is w8 S8 g _ (i : Int) HD8.out)
  rw [HP5.out] at HLD
  refine HLD.out.mono ?_
  rintro e w9 ⟨v9, rfl, hown9, hdk9, ht9⟩
  have hz9 := ht9.below HZ8.out.size HS8.out
  have HD9 := Lib.hid hdk9
  have HZ9 := Lib.hid (HZ8.out.trans hz9)
  have HO9 := Lib.hid (hown9.lower (Nat.zero_le _) : Own w9 0 5 v9 wl)
  have HOL9 : Hid (∀ k, v9.ownBlock = some k → w8.heap.size ≤ k) := fun k e => by
    rcases hown9.2 with ⟨e', _⟩ | ⟨g', _, _, e', hb, _⟩
    · rw [e'] at e; cases e
    · rw [e'] at e; simp [Value.ownBlock] at e; omega
  have HS8L := Lib.hid HD8.out.lt
  obtain ⟨A9, n9, c9, rfl, N9, hnc9, hcm9⟩ := hown9.byt.form
  clear hown9 hdk9 ht9 hz9 HLD
  go_wp2_with fail
  have HLD := Lib.hid (load_is w9 S8 g _ (j : Int) HD9.out)
  rw [HP6.out] at HLD
  refine HLD.out.mono ?_
  rintro e w10 ⟨v10, rfl, hown10, hdk10, ht10⟩
  have hz10 := ht10.below HZ9.out.size HS8.out
  have HD10 := Lib.hid hdk10
  have HZ10 := Lib.hid (HZ9.out.trans hz10)
  have HO10 := Lib.hid hown10.byt
  have HX10 : Hid (Byt w10 (.slice A9 n9 c9) wl) := HO9.out.byt.trn ht10 (fun k e h => by have := HOL9.out k e; have := HS8L.out k h; omega)
  obtain ⟨A10, n10, c10, rfl, N10, hnc10, hcm10⟩ := hown10.byt.form
  clear hown10 hdk10 ht10 hz10 HLD
  go_wp2_with fail
  refine (image_is w10 S8 g s3 HD10.out).mono ?_
  rintro e w11 ⟨v11, rfl, hown11, hb11⟩
  have HD11 : Hid (Dsk w11.drew S8 g s3) := (HD10.out.below hb11).below (Below.refl _ _).drew
  have hz11 : Below w3.heap.size w3 w11.drew := (HZ10.out.trans (hb11.mono HZ10.out.size)).drew
  have HZ11 := Lib.hid hz11
  have HB11 : Hid (Below w.heap.size w w11.drew) := HB3.out.trans (hz11.mono HB3.out.size)
  have T1 := HTA.out w11.drew _ (HA3.out.below hz11)
  have T2 := HTB.out w11.drew _ (HC3.out.below hz11)
  have HX11 : Hid (Byt w11.drew (.slice A9 n9 c9) wl) := HX10.out.below hb11.drew
  have T4 := HTB.out w11.drew _ (HO10.out.below hb11.drew)
  obtain ⟨A11, n11, c11, rfl, N11, hnc11, hcm11⟩ := hown11.byt.form
  obtain rfl : n11 = 22016 := N11.out.trans HP9.out
  obtain ⟨A12, n12, c12, hcut, hby12, N12, _, _⟩ := Byt.midrun (hown11.byt.below (Below.refl _ _).drew : Byt w11.drew (.slice A11 22016 c11) s3.B) (4096 * j) (4096 * (j + 1)) (by omega) (by omega)
  rw [show 4096 * (j + 1) - 4096 * j = 4096 by omega, HP7.out] at hby12
  have T5 := HTB.out w11.drew _ hby12
  rw [show ((4096 * j : Nat) : Int) = (j : Int) * 4096 by omega, show ((4096 * (j + 1) : Nat) : Int) = ((j : Int) + 1) * 4096 by omega] at hcut
  have hw1 : IntKind.i64.wrap ((j : Int) * 4096) = (j : Int) * 4096 := by rw [IntKind.wrap_i64]; omega
  have hw2 : IntKind.i64.wrap ((j : Int) + 1) = (j : Int) + 1 := by rw [IntKind.wrap_i64]; omega
  have hw3 : IntKind.i64.wrap (((j : Int) + 1) * 4096) = ((j : Int) + 1) * 4096 := by rw [IntKind.wrap_i64]; omega
  have HPG := Lib.hid (pages_is w11.drew S8 g s3 HD11.out)
  rw [HP8.out] at HPG
  clear hown11 hb11 hz11 hby12 N12
  by_cases hij : i = j
  · subst hij
    have HWL' : Hid (lb = wl) := by have := HWL.out; rw [if_pos rfl] at this; exact this
    have T3 := HTB.out w11.drew (.slice A9 n9 c9) (by rw [HWL'.out]; exact HX11.out)
    go_wp2_with fail
    refine wp_region_R (R := fun x y => x = y) (by kernel_rfl) (fun _ => rfl) (fun h k => h.trans k) (by kernel_rfl) (fun d v c a w h => by cases d <;> exact h)
      [(0, false), (1, false), (2, false), (3, false), (4, false), (5, false), (6, false), (7, false), (8, false), (9, false), (10, false), (11, false), (12, false), (13, false), (14, false), (15, false), (16, false), (17, false), (18, false), (19, false), (20, false), (21, false), (22, false), (23, false), (24, false), (25, false), (26, false), (27, false), (28, false), (29, false), (30, false), (31, false), (32, false), (33, false), (34, false), (35, true), (36, false), (37, false), (38, false)] rfl (by kernel_rfl) (by kernel_rfl) ?_
    simp only [sel, List.getElem?_toArray, List.getElem?_cons_succ, List.getElem?_cons_zero]
    generalize w11.drew = wd11 at *
    iterate 35 (refine sch_take ?_ rfl ?_ ?_; rotate_left; (focus (intro u hu; subst hu; go_simp <;> rfl)); simp only [Act.put, List.setIfInBounds_toArray, List.set_cons_zero, List.set_cons_succ])
    refine sch_call rfl ?_
    intro K hK
    go_simp
    refine (HPG.out).mono ?_
    rintro e w12 ⟨rfl, rfl⟩
    go_wp2_with fail
    refine hK _ _ rfl ?_
    clear hK K
    iterate 3 (refine sch_take ?_ rfl ?_ ?_; rotate_left; (focus (intro u hu; subst hu; go_simp <;> rfl)); simp only [Act.put, List.setIfInBounds_toArray, List.set_cons_zero, List.set_cons_succ])
    refine sch_nil ?_
    go_wp2_with fail
    go_ret
    exact ⟨rfl, HB11.out⟩
  · have HWL' : Hid (la = wl) := by have := HWL.out; rw [if_neg hij] at this; exact this
    have T3 := HTA.out w11.drew (.slice A9 n9 c9) (by rw [HWL'.out]; exact HX11.out)
    have hne : ((i : Int) == (j : Int)) = false := by rw [beq_eq_false_iff_ne]; omega
    go_wp2_with fail
    refine wp_region_R (R := fun x y => x = y) (by kernel_rfl) (fun _ => rfl) (fun h k => h.trans k) (by kernel_rfl) (fun d v c a w h => by cases d <;> exact h)
      [(0, false), (1, false), (2, false), (3, false), (4, false), (5, false), (6, false), (7, false), (8, false), (9, false), (10, false), (11, false), (12, false), (13, false), (14, false), (15, false), (16, false), (17, false), (18, false), (19, false), (20, false), (21, false), (22, false), (23, false), (24, false), (25, false), (26, false), (27, false), (28, false), (29, false), (30, false), (31, false), (32, false), (33, false), (34, false), (35, true), (36, false), (37, false), (38, false)] rfl (by kernel_rfl) (by kernel_rfl) ?_
    simp only [sel, List.getElem?_toArray, List.getElem?_cons_succ, List.getElem?_cons_zero]
    generalize w11.drew = wd11 at *
    iterate 35 (refine sch_take ?_ rfl ?_ ?_; rotate_left; (focus (intro u hu; subst hu; go_simp <;> rfl)); simp only [Act.put, List.setIfInBounds_toArray, List.set_cons_zero, List.set_cons_succ])
    refine sch_call rfl ?_
    intro K hK
    go_simp
    refine (HPG.out).mono ?_
    rintro e w12 ⟨rfl, rfl⟩
    go_wp2_with fail
    refine hK _ _ rfl ?_
    clear hK K
    iterate 3 (refine sch_take ?_ rfl ?_ ?_; rotate_left; (focus (intro u hu; subst hu; go_simp <;> rfl)); simp only [Act.put, List.setIfInBounds_toArray, List.set_cons_zero, List.set_cons_succ])
    refine sch_nil ?_
    go_wp2_with fail
    go_ret
    exact ⟨rfl, HB11.out⟩

theorem walk (w : World) (k : Int) (n : Nat) (vb : Value) (l : List UInt8) (k2 : Int) (n2 : Nat) (vb2 : Value) (l2 : List UInt8) (x y : Int) (hv : Byt w vb l) (_hk : -9223372036854775808 ≤ k ∧ k ≤ 9223372036854775807) (hn : n < 4294967296) (hv2 : Byt w vb2 l2) (_hk2 : -9223372036854775808 ≤ k2 ∧ k2 ≤ 9223372036854775807) (hn2 : n2 < 4294967296) (_hx : -9223372036854775808 ≤ x ∧ x ≤ 9223372036854775807) (_hy : -9223372036854775808 ≤ y ∧ y ≤ 9223372036854775807) :
    Calls Tryd.prog 8 #[.agg (pageV k (n : Int) vb), .agg (pageV k2 (n2 : Int) vb2), .int .i64 x, .int .i64 y] w fun e w' => e = .returned (.bool true) ∧ Below w.heap.size w w' := by
  by_cases h : 5000 < l.length ∨ 5000 < l2.length
  · exact walk_great w k n vb l k2 n2 vb2 l2 x y hv hv2 hn hn2 h
  · by_cases hk : ((1 ≤ k ∧ k ≤ 7) ∧ l.length ≤ 4080)
    · by_cases hk2 : ((1 ≤ k2 ∧ k2 ≤ 7) ∧ l2.length ≤ 4080)
      · exact walk_oo w k n vb l k2 n2 vb2 l2 x y hv hv2 hn hn2 (by omega) (by omega) hk hk2
      · exact walk_ob w k n vb l k2 n2 vb2 l2 x y hv hv2 hn hn2 (by omega) (by omega) hk hk2
    · by_cases hk2 : ((1 ≤ k2 ∧ k2 ≤ 7) ∧ l2.length ≤ 4080)
      · exact walk_bo w k n vb l k2 n2 vb2 l2 x y hv hv2 hn hn2 (by omega) (by omega) hk hk2
      · exact walk_bb w k n vb l k2 n2 vb2 l2 x y hv hv2 hn hn2 (by omega) (by omega) hk hk2

set_option maxRecDepth 100000 in
theorem lifted (os : Os) (started : os.Started) (H : Type) (enc : TypeId × Value → H) :
    ReturnsInHanded {} Tryd.checked os 8 .any (fun w args => (Rows.pageApartSpec.pre enc Tryd.prog Tryd.f8 Rows.pageApartRow.domain false w args ∧ laidMetH Tryd.prog Rows.pageApartRow.laid w) ∧ sizedMet enc Tryd.prog Tryd.f8 (OpenSpec.ofChange Rows.pageApartSpec) false w args) (Rows.pageApartSpec.post enc Tryd.prog Tryd.f8 false true false false) := by
  refine returnsInHanded_of_change_and (C := Tryd.checked) (X := fun w _ => laidMetH Tryd.prog Rows.pageApartRow.laid w) (fun _ _ _ hh h => h.of_heap hh) ownKnobs started (by kernel_rfl) Tryd.func8
    (ChangeSpec.witness_shaped (enc := enc) (C := Tryd.checked) (os := os) (X := fun w _ => laidMetH Tryd.prog Rows.pageApartRow.laid w) false (World.laidAll Tryd.prog os Rows.pageApartRow.laid) #[.agg (pageV 0 0 (.slice none 0 0)), .agg (pageV 0 0 (.slice none 0 0)), .int .i64 0, .int .i64 0] 8 (World.laidAll_os _ _ _)
      (World.shaped_of_ZipB (by kernel_rfl) (by kernel_rfl)) (by kernel_rfl) (by kernel_rfl) (by kernel_rfl)
      (by rw [MakeChecks.laidMetH_plain _ _ _ (by kernel_rfl)]; exact laidMet_laidAll _ (by kernel_rfl) (by kernel_rfl))) ?_
  intro W base args ds gs before hval0 hW hcnd _ _ _
  have hval : ∀ (j : Nat) t v, Tryd.f8.params[j]? = some t → args[j]? = some v → Value.okWide Tryd.prog W .any base t v := hval0
  have hW' := hW
  obtain ⟨p, q, hA0, hV, rfl, hfz, hnd⟩ := hW
  have hA : DataW.TrodAll enc Tryd.prog W 0 (fun _ => true) true Tryd.f8.params.toList args.toList ds p := hA0
  rw [Tryd.params8] at hA hval
  obtain ⟨v0, vs0, d0, ds0, p0, q0, hargs, rfl, rfl, h0, r0⟩ := trodAll_cons hA
  obtain ⟨v1, vs1, d1, ds1, p1, q1, rfl, rfl, rfl, h1, r1⟩ := trodAll_cons r0
  obtain ⟨v2, vs2, d2, ds2, p2, q2, rfl, rfl, rfl, h2, r2⟩ := trodAll_cons r1
  obtain ⟨v3, vs3, d3, ds3, p3, q3, rfl, rfl, rfl, h3, r3⟩ := trodAll_cons r2
  obtain ⟨rfl, rfl, rfl⟩ := trodAll_nil r3
  obtain rfl : args = #[v0, v1, v2, v3] := by cases args; simp_all
  obtain ⟨rfl, rfl⟩ := trodVars_none hV
  have k0 := h0
  have lt0 : ∀ x ∈ p0, x.block < W.heap.size := by obtain ⟨m, hm⟩ := k0; exact DataW.trod_lt m _ _ _ hm
  obtain ⟨kd0, nm0, vb0, bd0, rfl, b0, bk0, bn0⟩ := open_page (hval 0 28 v0 rfl rfl) h0
  have k1 := h1
  have lt1 : ∀ x ∈ p1, x.block < W.heap.size := by obtain ⟨m, hm⟩ := k1; exact DataW.trod_lt m _ _ _ hm
  obtain ⟨kd1, nm1, vb1, bd1, rfl, b1, bk1, bn1⟩ := open_page (hval 1 28 v1 rfl rfl) h1
  obtain ⟨a2, rfl, rfl, rfl, w2⟩ := open_int Tryd.underlying3 (hval 2 3 v2 rfl rfl) h2
  have b2 := open_i64 w2
  obtain ⟨a3, rfl, rfl, rfl, w3⟩ := open_int Tryd.underlying3 (hval 3 3 v3 rfl rfl) h3
  have b3 := open_i64 w3
  clear hA0 hval0
  refine (walk W kd0 nm0 vb0 bd0 kd1 nm1 vb1 bd1 a2 a3 b0 bk0 bn0 b1 bk1 bn1 b2 b3).mono fun e W' ⟨he, bel⟩ => ?_
  subst he
  exact ⟨_, rfl, _, _, _, [], _, [], hW', trodAll_mk1 (shut_bool Tryd.underlying4 _), (trodAll_cons_mk (Below.trod laidOuts (by kernel_rfl) (of_decide_eq_true (by kernel_rfl)) k0 bel lt0) (trodAll_cons_mk (Below.trod laidOuts (by kernel_rfl) (of_decide_eq_true (by kernel_rfl)) k1 bel lt1) (trodAll_cons_mk (shut_int Tryd.underlying3 w2) (trodAll_cons_mk (shut_int Tryd.underlying3 w3) trodAll_mk0)))), rfl, bel.frame _, fun h => by cases h⟩

theorem over : Rows.pageApartRow.holds Tryd.pinned (OpenSpec.ofChange Rows.pageApartSpec) :=
  OpenClaim.holds_of_wide 8 Tryd.f8 rfl rfl rfl rfl rfl rfl rfl ⟨rfl, rfl, rfl, rfl, rfl⟩ rfl rfl rfl rfl rfl (by kernel_rfl) Tryd.func8 (by kernel_rfl)
    (of_decide_eq_true (by kernel_rfl)) (by unfold Func.isWrapper; first | (rw [if_pos (by decide +kernel)]; kernel_rfl) | (rw [if_neg (by decide +kernel)]; exact ⟨rfl, rfl⟩))
    (fun os started H enc _ => lifted os started H enc)

theorem proved : Rows.PageApartCardSaid :=
  Claim7.holds_tied_plain_at .later [] [.data, .pinned] true Rows.pageApartCard.stood.harness false over (fun _ h => by cases h) (by kernel_rfl) (fun _ h => by cases h) pageApart_row_tie rfl ⟨rfl, rfl⟩ (by kernel_rfl) rfl
    (fun f fn hf hfn => by
      obtain rfl : f = 8 := Option.some.inj ((show Tryd.prog.funcNamed "tallyman/tallymanlaw05.PageApart" = some 8 by kernel_rfl).symm.trans hf) |>.symm
      obtain rfl : fn = Tryd.f8 := (Option.some.inj (Tryd.func8.symm.trans hfn)).symm
      exact ⟨by kernel_rfl, fun j t ht => by
        rw [Tryd.params8] at ht
        have hm : t ∈ [28, 28, 3, 3] := by simpa using Array.mem_of_getElem? ht
        have hall : ([28, 28, 3, 3].all fun u => !Tryd.prog.wantsStandIn u) = true := by kernel_rfl
        exact (show Tryd.prog.wantsStandIn t = false by simpa using List.all_eq_true.1 hall t hm)⟩)
    (by kernel_rfl)
#print axioms proved
end Go.Proofs.YtagchbpofoidmaaDoor.pageApart
