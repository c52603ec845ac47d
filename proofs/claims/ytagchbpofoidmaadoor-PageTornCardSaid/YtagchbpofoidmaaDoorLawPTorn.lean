/-
  The statement PageTorn: of two pages, one written over the other and torn behind any sector, what is read is one of both, or nothing. Conditions: none.
-/
import Derived.Test.YtagchbpofoidmaaDoorPgH
import Derived.Test.YtagchbpofoidmaaDoorPgM
namespace Go.Proofs.YtagchbpofoidmaaDoor.pageTorn
open Go.ChangeShapes Go.WideShapes Go.ChangeAt Go.RowKit Go.Maps
set_option maxRecDepth 100000
set_option linter.unusedVariables false

theorem box_set0 {w : World} {p : Nat} {k n : Int} {vb : Value} (h : Box w p k n vb) (k' : Int) : Box (w.setCell ⟨p, 0, none⟩ (.int .i64 k')) p k' n vb := by
  unfold Box at h ⊢
  simp [World.setCell, Array.getElem?_modify, h, pageV]
theorem box_set1 {w : World} {p : Nat} {k n : Int} {vb : Value} (h : Box w p k n vb) (n' : Int) : Box (w.setCell ⟨p, 1, none⟩ (.int .u32 n')) p k n' vb := by
  unfold Box at h ⊢
  simp [World.setCell, Array.getElem?_modify, h, pageV]
theorem box_oth {w : World} {p q i : Nat} {k n : Int} {vb v : Value} (h : Box w p k n vb) (hne : p ≠ q) : Box (w.setCell ⟨q, i, none⟩ v) p k n vb := (heap_cell_other hne).trans h
set_option maxRecDepth 100000 in
set_option maxHeartbeats 40000000 in
theorem walk_great (w : World) (k : Int) (n : Nat) (vb : Value) (l : List UInt8) (k2 : Int) (n2 : Nat) (vb2 : Value) (l2 : List UInt8) (x y : Int) (hv : Byt w vb l) (hv2 : Byt w vb2 l2) (hn : n < 4294967296) (h : 4080 < l.length ∨ 4080 < l2.length) :
    Calls Tryd.prog 7 #[.agg (pageV k (n : Int) vb), .agg (pageV k2 (n2 : Int) vb2), .int .i64 x, .int .i64 y] w fun e w' => e = .returned (.bool true) ∧ Below w.heap.size w w' := by
  obtain ⟨A, m, c, rfl, N, hnc, hcm⟩ := hv.form
  obtain ⟨A2, m2, c2, rfl, N2, hnc2, hcm2⟩ := hv2.form
  obtain ⟨wa, hwa⟩ : ∃ wa, w.alloc (.cells (pageV k n (.slice A m c)) 28) = wa := ⟨_, rfl⟩
  obtain ⟨w0, hw0⟩ : ∃ w0, wa.alloc (.cells (pageV k2 n2 (.slice A2 m2 c2)) 28) = w0 := ⟨_, rfl⟩
  have hba : Below w.heap.size w wa := hwa ▸ below_new w _
  have hb0 : Below wa.heap.size wa w0 := hw0 ▸ below_new wa _
  have HX0 : Hid (Box w0 w.heap.size k n (.slice A m c)) := (hwa ▸ Box.new w k n _ : Box wa _ _ _ _).below hb0
  have HY0 : Hid (Box w0 (w.heap.size + 1) k2 n2 (.slice A2 m2 c2)) := by
    have : Box w0 wa.heap.size k2 n2 (.slice A2 m2 c2) := hw0 ▸ Box.new wa k2 n2 _
    rw [show wa.heap.size = w.heap.size + 1 by rw [← hwa]; simp] at this
    exact this
  have HB0 : Hid (Below w.heap.size w w0) := hba.trans (hb0.mono hba.size)
  have HW0 : Hid ((w.alloc (.cells (pageV k n (.slice A m c)) 28)).alloc (.cells (pageV k2 n2 (.slice A2 m2 c2)) 28) = w0) := by rw [Hid, hwa, hw0]
  have HV := Lib.hid hv
  have HV2 := Lib.hid hv2
  have HN := Lib.hid hn
  unfold pageV at HW0 ⊢
  clear hv hv2 hw0 hwa hba hb0
  by_cases h1 : (4080 : Int) < (m : Int)
  · clear h
    go_enter Tryd.func7, Tryd.ntmps7
    go_wp2_with fail
    rw [HW0.out]
    refine (lives5_any _).mono ?_
    rintro e w1 ⟨rfl, hb1⟩
    have HX1 := Lib.hid (HX0.out.below hb1)
    have HY1 := Lib.hid (HY0.out.below hb1)
    have HB1 := Lib.hid (HB0.out.trans (hb1.mono HB0.out.size))
    obtain ⟨d0, d1, d2⟩ := HX1.out.cells
    obtain ⟨e0, e1, e2⟩ := HY1.out.cells
    clear hb1
    go_wp2_with fail
    go_ret
    exact ⟨rfl, HB1.out⟩
  · have h2 : (4080 : Int) < (m2 : Int) := by have := N.out; have := N2.out; omega
    clear h
    go_enter Tryd.func7, Tryd.ntmps7
    go_wp2_with fail
    rw [HW0.out]
    refine (lives5_any _).mono ?_
    rintro e w1 ⟨rfl, hb1⟩
    have HX1 := Lib.hid (HX0.out.below hb1)
    have HY1 := Lib.hid (HY0.out.below hb1)
    have HB1 := Lib.hid (HB0.out.trans (hb1.mono HB0.out.size))
    obtain ⟨d0, d1, d2⟩ := HX1.out.cells
    obtain ⟨e0, e1, e2⟩ := HY1.out.cells
    clear hb1
    go_wp2_with fail
    go_ret
    exact ⟨rfl, HB1.out⟩
set_option maxRecDepth 100000 in
set_option maxHeartbeats 40000000 in
theorem walk_bad (w : World) (k : Int) (n : Nat) (vb : Value) (l : List UInt8) (k2 : Int) (n2 : Nat) (vb2 : Value) (l2 : List UInt8) (x y : Int) (hv : Byt w vb l) (hv2 : Byt w vb2 l2) (hn : n < 4294967296) (hl : l.length ≤ 4080) (hl2 : l2.length ≤ 4080) (hk : ¬ (1 ≤ k ∧ k ≤ 7)) :
    Calls Tryd.prog 7 #[.agg (pageV k (n : Int) vb), .agg (pageV k2 (n2 : Int) vb2), .int .i64 x, .int .i64 y] w fun e w' => e = .returned (.bool true) ∧ Below w.heap.size w w' := by
  obtain ⟨A, m, c, rfl, N, hnc, hcm⟩ := hv.form
  obtain ⟨A2, m2, c2, rfl, N2, hnc2, hcm2⟩ := hv2.form
  obtain ⟨wa, hwa⟩ : ∃ wa, w.alloc (.cells (pageV k n (.slice A m c)) 28) = wa := ⟨_, rfl⟩
  obtain ⟨w0, hw0⟩ : ∃ w0, wa.alloc (.cells (pageV k2 n2 (.slice A2 m2 c2)) 28) = w0 := ⟨_, rfl⟩
  have hba : Below w.heap.size w wa := hwa ▸ below_new w _
  have hb0 : Below wa.heap.size wa w0 := hw0 ▸ below_new wa _
  have HX0 : Hid (Box w0 w.heap.size k n (.slice A m c)) := (hwa ▸ Box.new w k n _ : Box wa _ _ _ _).below hb0
  have HY0 : Hid (Box w0 (w.heap.size + 1) k2 n2 (.slice A2 m2 c2)) := by
    have : Box w0 wa.heap.size k2 n2 (.slice A2 m2 c2) := hw0 ▸ Box.new wa k2 n2 _
    rw [show wa.heap.size = w.heap.size + 1 by rw [← hwa]; simp] at this
    exact this
  have HB0 : Hid (Below w.heap.size w w0) := hba.trans (hb0.mono hba.size)
  have HW0 : Hid ((w.alloc (.cells (pageV k n (.slice A m c)) 28)).alloc (.cells (pageV k2 n2 (.slice A2 m2 c2)) 28) = w0) := by rw [Hid, hwa, hw0]
  have HV := Lib.hid hv
  have HV2 := Lib.hid hv2
  have HN := Lib.hid hn
  unfold pageV at HW0 ⊢
  clear hv hv2 hw0 hwa hba hb0
  have h1 : ¬ (4080 : Int) < (m : Int) := by have := N.out; omega
  have h2 : ¬ (4080 : Int) < (m2 : Int) := by have := N2.out; omega
  have HL := Lib.hid hl
  have HL2 := Lib.hid hl2
  clear hl hl2
  go_enter Tryd.func7, Tryd.ntmps7
  go_wp2_with fail
  rw [HW0.out]
  refine (lives5_any _).mono ?_
  rintro e w1 ⟨rfl, hb1⟩
  have HX1 := Lib.hid (HX0.out.below hb1)
  have HY1 := Lib.hid (HY0.out.below hb1)
  have HB1 := Lib.hid (HB0.out.trans (hb1.mono HB0.out.size))
  obtain ⟨d0, d1, d2⟩ := HX1.out.cells
  obtain ⟨e0, e1, e2⟩ := HY1.out.cells
  clear hb1
  go_wp2_with fail
  have HXd : Hid (Box w1.drew w.heap.size k n (.slice A m c)) := HX1.out
  have HYd : Hid (Box w1.drew (w.heap.size + 1) k2 n2 (.slice A2 m2 c2)) := HY1.out
  have HBd : Hid (Below w.heap.size w w1.drew) := HB1.out.drew
  clear d0 d1 d2 e0 e1 e2
  refine wp_region_R (R := fun x y => y.heap[w.heap.size]? = x.heap[w.heap.size]?) (by kernel_rfl) (fun _ => rfl) (fun h k => k.trans h) (by kernel_rfl) (fun d v c a w h => by cases d <;> exact h)
    [(0, false), (1, false), (2, false), (3, false), (4, false), (5, true), (6, false), (7, true)] rfl (by kernel_rfl) (by kernel_rfl) ?_
  simp only [sel, List.getElem?_toArray, List.getElem?_cons_succ, List.getElem?_cons_zero]
  generalize w1.drew = wd at *
  (refine sch_take ?_ rfl ?_ ?_; rotate_left; (focus (intro u hu; go_simp <;> rfl)); simp only [Act.put, List.setIfInBounds_toArray, List.set_cons_zero, List.set_cons_succ])
  (refine sch_take ?_ rfl ?_ ?_; rotate_left; (focus (intro u hu; have cc := (Box.cells (w := u) (hu.trans HXd.out)).1; clear hu; go_simp <;> rfl)); simp only [Act.put, List.setIfInBounds_toArray, List.set_cons_zero, List.set_cons_succ])
  (refine sch_take ?_ rfl ?_ ?_; rotate_left; (focus (intro u hu; go_simp <;> rfl)); simp only [Act.put, List.setIfInBounds_toArray, List.set_cons_zero, List.set_cons_succ])
  (refine sch_take ?_ rfl ?_ ?_; rotate_left; (focus (intro u hu; have cc := (Box.cells (w := u) (hu.trans HXd.out)).2.1; clear hu; go_simp <;> rfl)); simp only [Act.put, List.setIfInBounds_toArray, List.set_cons_zero, List.set_cons_succ])
  (refine sch_take ?_ rfl ?_ ?_; rotate_left; (focus (intro u hu; go_simp <;> rfl)); simp only [Act.put, List.setIfInBounds_toArray, List.set_cons_zero, List.set_cons_succ])
  refine sch_call rfl ?_
  intro K hK
  have g0 := HYd.out.cells.1
  have f0 := HYd.out.frozen 0
  go_simp
  refine hK _ _ (heap_cell_other (by omega)) ?_
  clear hK K
  have HYe := Lib.hid (box_set0 HYd.out k)
  have HXe := Lib.hid (box_oth (i := 0) (v := .int .i64 k) HXd.out (q := w.heap.size + 1) (by omega))
  have HBe := Lib.hid (HBd.out.setCell (p := ⟨w.heap.size + 1, 0, none⟩) (by simp) (.int .i64 k))
  generalize wd.setCell ⟨w.heap.size + 1, 0, none⟩ (.int .i64 k) = we at *
  (refine sch_take ?_ rfl ?_ ?_; rotate_left; (focus (intro u hu; go_simp <;> rfl)); simp only [Act.put, List.setIfInBounds_toArray, List.set_cons_zero, List.set_cons_succ])
  refine sch_call rfl ?_
  intro K hK
  have g0 := HYe.out.cells.2.1
  have f0 := HYe.out.frozen 1
  go_simp
  refine hK _ _ (heap_cell_other (by omega)) ?_
  clear hK K
  have HYf := Lib.hid (box_set1 HYe.out n)
  have HXf := Lib.hid (box_oth (i := 1) (v := .int .u32 n) HXe.out (q := w.heap.size + 1) (by omega))
  have HBf := Lib.hid (HBe.out.setCell (p := ⟨w.heap.size + 1, 1, none⟩) (by simp) (.int .u32 n))
  generalize we.setCell ⟨w.heap.size + 1, 1, none⟩ (.int .u32 n) = wf at *
  refine sch_nil ?_
  obtain ⟨d0, d1, d2⟩ := HXf.out.cells
  go_wp2_with fail
  clear d0 d1 d2
  refine (bytes_bad _ k n _ l (HV.out.below HBf.out) (fun h => hk h.1)).mono ?_
  rintro e w2 ⟨rfl, hb2⟩
  have HY2 := Lib.hid (HYf.out.below hb2)
  have HB2 := Lib.hid (HBf.out.trans (hb2.mono HBf.out.size))
  obtain ⟨d0, d1, d2⟩ := HY2.out.cells
  clear hb2
  go_wp2_with fail
  refine (bytes_bad _ k n _ l2 (HV2.out.below HB2.out) (fun h => hk h.1)).mono ?_
  rintro e w3 ⟨rfl, hb3⟩
  have HB3 := Lib.hid (HB2.out.trans (hb3.mono HB2.out.size))
  clear hb3
  go_wp2_with fail
  go_ret
  exact ⟨rfl, HB3.out⟩
set_option maxRecDepth 100000 in
set_option maxHeartbeats 40000000 in
theorem walk_ok (w : World) (k : Int) (n : Nat) (vb : Value) (l : List UInt8) (k2 : Int) (n2 : Nat) (vb2 : Value) (l2 : List UInt8) (x y : Int) (hv : Byt w vb l) (hv2 : Byt w vb2 l2) (hn : n < 4294967296) (hl : l.length ≤ 4080) (hl2 : l2.length ≤ 4080) (hk : 1 ≤ k ∧ k ≤ 7) :
    Calls Tryd.prog 7 #[.agg (pageV k (n : Int) vb), .agg (pageV k2 (n2 : Int) vb2), .int .i64 x, .int .i64 y] w fun e w' => e = .returned (.bool true) ∧ Below w.heap.size w w' := by
  obtain ⟨A, m, c, rfl, N, hnc, hcm⟩ := hv.form
  obtain ⟨A2, m2, c2, rfl, N2, hnc2, hcm2⟩ := hv2.form
  obtain ⟨wa, hwa⟩ : ∃ wa, w.alloc (.cells (pageV k n (.slice A m c)) 28) = wa := ⟨_, rfl⟩
  obtain ⟨w0, hw0⟩ : ∃ w0, wa.alloc (.cells (pageV k2 n2 (.slice A2 m2 c2)) 28) = w0 := ⟨_, rfl⟩
  have hba : Below w.heap.size w wa := hwa ▸ below_new w _
  have hb0 : Below wa.heap.size wa w0 := hw0 ▸ below_new wa _
  have HX0 : Hid (Box w0 w.heap.size k n (.slice A m c)) := (hwa ▸ Box.new w k n _ : Box wa _ _ _ _).below hb0
  have HY0 : Hid (Box w0 (w.heap.size + 1) k2 n2 (.slice A2 m2 c2)) := by
    have : Box w0 wa.heap.size k2 n2 (.slice A2 m2 c2) := hw0 ▸ Box.new wa k2 n2 _
    rw [show wa.heap.size = w.heap.size + 1 by rw [← hwa]; simp] at this
    exact this
  have HB0 : Hid (Below w.heap.size w w0) := hba.trans (hb0.mono hba.size)
  have HW0 : Hid ((w.alloc (.cells (pageV k n (.slice A m c)) 28)).alloc (.cells (pageV k2 n2 (.slice A2 m2 c2)) 28) = w0) := by rw [Hid, hwa, hw0]
  have HV := Lib.hid hv
  have HV2 := Lib.hid hv2
  have HN := Lib.hid hn
  unfold pageV at HW0 ⊢
  clear hv hv2 hw0 hwa hba hb0
  have h1 : ¬ (4080 : Int) < (m : Int) := by have := N.out; omega
  have h2 : ¬ (4080 : Int) < (m2 : Int) := by have := N2.out; omega
  have HL := Lib.hid hl
  have HL2 := Lib.hid hl2
  clear hl hl2
  go_enter Tryd.func7, Tryd.ntmps7
  go_wp2_with fail
  rw [HW0.out]
  refine (lives5_any _).mono ?_
  rintro e w1 ⟨rfl, hb1⟩
  have HX1 := Lib.hid (HX0.out.below hb1)
  have HY1 := Lib.hid (HY0.out.below hb1)
  have HB1 := Lib.hid (HB0.out.trans (hb1.mono HB0.out.size))
  obtain ⟨d0, d1, d2⟩ := HX1.out.cells
  obtain ⟨e0, e1, e2⟩ := HY1.out.cells
  clear hb1
  go_wp2_with fail
  have HXd : Hid (Box w1.drew w.heap.size k n (.slice A m c)) := HX1.out
  have HYd : Hid (Box w1.drew (w.heap.size + 1) k2 n2 (.slice A2 m2 c2)) := HY1.out
  have HBd : Hid (Below w.heap.size w w1.drew) := HB1.out.drew
  clear d0 d1 d2 e0 e1 e2
  refine wp_region_R (R := fun x y => y.heap[w.heap.size]? = x.heap[w.heap.size]?) (by kernel_rfl) (fun _ => rfl) (fun h k => k.trans h) (by kernel_rfl) (fun d v c a w h => by cases d <;> exact h)
    [(0, false), (1, false), (2, false), (3, false), (4, false), (5, true), (6, false), (7, true)] rfl (by kernel_rfl) (by kernel_rfl) ?_
  simp only [sel, List.getElem?_toArray, List.getElem?_cons_succ, List.getElem?_cons_zero]
  generalize w1.drew = wd at *
  (refine sch_take ?_ rfl ?_ ?_; rotate_left; (focus (intro u hu; go_simp <;> rfl)); simp only [Act.put, List.setIfInBounds_toArray, List.set_cons_zero, List.set_cons_succ])
  (refine sch_take ?_ rfl ?_ ?_; rotate_left; (focus (intro u hu; have cc := (Box.cells (w := u) (hu.trans HXd.out)).1; clear hu; go_simp <;> rfl)); simp only [Act.put, List.setIfInBounds_toArray, List.set_cons_zero, List.set_cons_succ])
  (refine sch_take ?_ rfl ?_ ?_; rotate_left; (focus (intro u hu; go_simp <;> rfl)); simp only [Act.put, List.setIfInBounds_toArray, List.set_cons_zero, List.set_cons_succ])
  (refine sch_take ?_ rfl ?_ ?_; rotate_left; (focus (intro u hu; have cc := (Box.cells (w := u) (hu.trans HXd.out)).2.1; clear hu; go_simp <;> rfl)); simp only [Act.put, List.setIfInBounds_toArray, List.set_cons_zero, List.set_cons_succ])
  (refine sch_take ?_ rfl ?_ ?_; rotate_left; (focus (intro u hu; go_simp <;> rfl)); simp only [Act.put, List.setIfInBounds_toArray, List.set_cons_zero, List.set_cons_succ])
  refine sch_call rfl ?_
  intro K hK
  have g0 := HYd.out.cells.1
  have f0 := HYd.out.frozen 0
  go_simp
  refine hK _ _ (heap_cell_other (by omega)) ?_
  clear hK K
  have HYe := Lib.hid (box_set0 HYd.out k)
  have HXe := Lib.hid (box_oth (i := 0) (v := .int .i64 k) HXd.out (q := w.heap.size + 1) (by omega))
  have HBe := Lib.hid (HBd.out.setCell (p := ⟨w.heap.size + 1, 0, none⟩) (by simp) (.int .i64 k))
  generalize wd.setCell ⟨w.heap.size + 1, 0, none⟩ (.int .i64 k) = we at *
  (refine sch_take ?_ rfl ?_ ?_; rotate_left; (focus (intro u hu; go_simp <;> rfl)); simp only [Act.put, List.setIfInBounds_toArray, List.set_cons_zero, List.set_cons_succ])
  refine sch_call rfl ?_
  intro K hK
  have g0 := HYe.out.cells.2.1
  have f0 := HYe.out.frozen 1
  go_simp
  refine hK _ _ (heap_cell_other (by omega)) ?_
  clear hK K
  have HYf := Lib.hid (box_set1 HYe.out n)
  have HXf := Lib.hid (box_oth (i := 1) (v := .int .u32 n) HXe.out (q := w.heap.size + 1) (by omega))
  have HBf := Lib.hid (HBe.out.setCell (p := ⟨w.heap.size + 1, 1, none⟩) (by simp) (.int .u32 n))
  generalize we.setCell ⟨w.heap.size + 1, 1, none⟩ (.int .u32 n) = wf at *
  refine sch_nil ?_
  obtain ⟨d0, d1, d2⟩ := HXf.out.cells
  go_wp2_with fail
  clear d0 d1 d2
  obtain ⟨kk, rfl⟩ : ∃ kk : Nat, k = (kk : Int) := ⟨k.toNat, by omega⟩
  have HK1 : Hid (1 ≤ kk) := by rw [Hid]; omega
  have HK7 : Hid (kk ≤ 7) := by rw [Hid]; omega
  obtain ⟨i0, hi0, hz0, hz1, hz2⟩ := info_parts uinfo
  refine (bytes_ok _ kk n _ l (HV.out.below HBf.out) HK1.out HK7.out HL.out HN.out).mono ?_
  rintro e w2 ⟨va, rfl, hown2, hb2⟩
  have HX2 := Lib.hid (HXf.out.below hb2)
  have HY2 := Lib.hid (HYf.out.below hb2)
  have HB2 := Lib.hid (HBf.out.trans (hb2.mono HBf.out.size))
  have HA2 := Lib.hid hown2.byt
  obtain ⟨Aa, na, ca, rfl, Na, hnca, hcma⟩ := hown2.byt.form
  obtain ⟨d0, d1, d2⟩ := HY2.out.cells
  clear hb2 hown2
  go_wp2_with fail
  clear d0 d1 d2
  refine (bytes_ok _ kk n _ l2 (HV2.out.below HB2.out) HK1.out HK7.out HL2.out HN.out).mono ?_
  rintro e w3 ⟨vc, rfl, hown3, hb3⟩
  have HX3 := Lib.hid (HX2.out.below hb3)
  have HY3 := Lib.hid (HY2.out.below hb3)
  have HB3 := Lib.hid (HB2.out.trans (hb3.mono HB2.out.size))
  have HA3 := Lib.hid (HA2.out.below hb3)
  have HC3 := Lib.hid hown3.byt
  obtain ⟨Ac, nc, cc, rfl, Nc, hncc, hcmc⟩ := hown3.byt.form
  have HLA : Hid ((pageB kk n l).length = 4096) := pageB_len HL.out
  have HLB : Hid ((pageB kk n l2).length = 4096) := pageB_len HL2.out
  have HOA : Hid (okB (pageB kk n l)) := pageB_ok HK1.out HK7.out HL.out
  have HOB : Hid (okB (pageB kk n l2)) := pageB_ok HK1.out HK7.out HL2.out
  have HRA : Hid (∀ W v, Byt W v (pageB kk n l) → Calls Tryd.prog 10 #[v] W (ReadP W kk n (padB l))) := fun W v h => read_page W v kk n l h HK1.out HK7.out HL.out HN.out
  have HRB : Hid (∀ W v, Byt W v (pageB kk n l2) → Calls Tryd.prog 10 #[v] W (ReadP W kk n (padB l2))) := fun W v h => read_page W v kk n l2 h HK1.out HK7.out HL2.out HN.out
  generalize pageB kk n l = la at *
  generalize pageB kk n l2 = lb at *
  obtain rfl : na = 4096 := Na.out.trans HLA.out
  obtain rfl : nc = 4096 := Nc.out.trans HLB.out
  clear hb3 hown3
  go_wp2_with fail
  refine (pick_any x 8 _ (by omega) (by omega)).mono ?_
  rintro e w4 ⟨rfl, rfl⟩
  have ha1 := Int.emod_nonneg x (show (8 : Int) ≠ 0 by omega)
  have ha2 := Int.emod_lt_of_pos x (show (0 : Int) < 8 by omega)
  generalize x % 8 = xa at *
  go_wp2_with fail
  refine (pick_any y 513 _ (by omega) (by omega)).mono ?_
  rintro e w4 ⟨rfl, rfl⟩
  have hb1 := Int.emod_nonneg y (show (513 : Int) ≠ 0 by omega)
  have hb2 := Int.emod_lt_of_pos y (show (0 : Int) < 513 by omega)
  generalize y % 513 = yb at *
  obtain ⟨j, hj⟩ : ∃ j : Nat, 512 * xa + yb = (j : Int) := ⟨(512 * xa + yb).toNat, by omega⟩
  have hj2 : j ≤ 4096 := by omega
  obtain ⟨Au, nu, cu, ru, bu, Nu, _, _⟩ := HC3.out.uptorun 22 elemByte sizeByte j hj2 .i64
  obtain ⟨Ad, nd, cd, rd, bd, Nd, _, _⟩ := HA3.out.cutrun 22 elemByte sizeByte j hj2 .i64
  have HUd : Hid (Byt w3.drew (.slice Au nu cu) (lb.take j)) := bu
  have HDd : Hid (Byt w3.drew (.slice Ad nd cd) (la.drop j)) := bd
  have HX3d : Hid (Box w3.drew w.heap.size kk n (.slice A m c)) := HX3.out
  have HY3d : Hid (Box w3.drew (w.heap.size + 1) kk n (.slice A2 m2 c2)) := HY3.out
  have HB3d : Hid (Below w.heap.size w w3.drew) := HB3.out.drew
  have HA3d : Hid (Byt w3.drew (.slice Aa 4096 ca) la) := HA3.out
  have HC3d : Hid (Byt w3.drew (.slice Ac 4096 cc) lb) := HC3.out
  clear bu bd
  go_wp2_with fail
  refine wp_region_R (R := fun x y => Below w.heap.size x y) (by kernel_rfl) (fun _ => Below.refl _ _) (fun h k => h.trans k) (by kernel_rfl) (fun d v c a w h => by cases d <;> exact h)
    [(0, false), (1, false), (2, false), (4, false), (5, false), (6, false), (3, true), (7, true), (8, false)] rfl (by kernel_rfl) (by kernel_rfl) ?_
  simp only [sel, List.getElem?_toArray, List.getElem?_cons_succ, List.getElem?_cons_zero]
  generalize w3.drew = wd3 at *
  iterate 6 (refine sch_take ?_ rfl ?_ ?_; rotate_left; (focus (intro u hu; go_simp <;> rfl)); simp only [Act.put, List.setIfInBounds_toArray, List.set_cons_zero, List.set_cons_succ])
  refine sch_call rfl ?_
  intro K hK
  go_simp
  refine (kitown_any _ _ _ HUd.out (by have := HLB.out; rw [List.length_take]; omega)).mono ?_
  rintro e w4 ⟨v4, rfl, hown4, hb4⟩
  go_wp2_with fail
  refine hK _ _ (hb4.mono HB3d.out.size) ?_
  clear hK K
  have HBW := Lib.hid hb4
  have HD4 := Lib.hid (HDd.out.below hb4)
  have HO4 := Lib.hid hown4
  clear hown4 hb4
  refine sch_call rfl ?_
  intro K hK
  refine wp_app w4 (.tmp 64) (.tmp 67) _ rfl wd3.heap.size 5 i0 _ Tryd.underlying22 hi0 hz0 hz1 hz2 rfl _ _ rfl HO4.out _ _ rfl HD4.out (by have := HLA.out; have := HLB.out; rw [List.length_take, List.length_drop]; omega) HBW.out.size ?_
  intro v5 w5 hown5 hg5 hat5
  have hb5 : Below wd3.heap.size wd3 w5 := below_own HBW.out HBW.out.size HO4.out hg5
  refine hK _ _ ((below_own (Below.refl _ _) HBW.out.size HO4.out hg5).mono HB3d.out.size) ?_
  clear hK K
  have HB5 := Lib.hid (HB3d.out.trans (hb5.mono HB3d.out.size))
  have HX5 := Lib.hid (HX3d.out.below hb5)
  have HY5 := Lib.hid (HY3d.out.below hb5)
  have HA5 := Lib.hid (HA3d.out.below hb5)
  have HC5 := Lib.hid (HC3d.out.below hb5)
  have HO5 := Lib.hid hown5
  obtain ⟨A5, n5, c5, rfl, N5, hnc5, hcm5⟩ := hown5.byt.form
  clear hown5 hg5 hat5 hb5
  (refine sch_take ?_ rfl ?_ ?_; rotate_left; (focus (intro u hu; go_simp <;> rfl)); simp only [Act.put, List.setIfInBounds_toArray, List.set_cons_zero, List.set_cons_succ])
  refine sch_nil ?_
  go_wp2_with fail
  have HOI : Hid (∀ lx : List UInt8, lx = la → okB lx) := fun lx e => e ▸ HOA.out
  have HOJ : Hid (∀ lx : List UInt8, lx = lb → okB lx) := fun lx e => e ▸ HOB.out
  generalize lb.take j ++ la.drop j = lx at *
  by_cases ho : okB lx
  · by_cases hxa : lx = la
    · subst hxa
      have HR2 := Lib.hid (fun W (h : Byt W (.slice A5 n5 c5) lx) => r5read_ok W _ _ h ho)
      unfold ReadE at HR2
      generalize (List.getD lx 3 0).toNat = kz at *
      generalize numW lx = nz at *
      refine (HRA.out _ _ HO5.out.byt).mono ?_
      rintro e w6 ⟨v6, rfl, hown6, hb6⟩
      have HO6 := Lib.hid (HO5.out.byt.below hb6)
      have HM6 := Lib.hid hown6.byt
      have HX6 := Lib.hid (HX5.out.below hb6)
      have HY6 := Lib.hid (HY5.out.below hb6)
      have HA6 := Lib.hid (HA5.out.below hb6)
      have HC6 := Lib.hid (HC5.out.below hb6)
      have HB6 := Lib.hid (HB5.out.trans (hb6.mono HB5.out.size))
      obtain ⟨A6, n6, c6, rfl, N6, hnc6, hcm6⟩ := hown6.byt.form
      obtain ⟨w7, hw7⟩ : ∃ w7, w6.alloc (.cells (pageV (kk : Int) (n : Int) (.slice A6 n6 c6)) 28) = w7 := ⟨_, rfl⟩
      have hb7 : Below w6.heap.size w6 w7 := hw7 ▸ below_new w6 _
      have HBM7 : Hid (Box w7 w6.heap.size kk n (.slice A6 n6 c6)) := hw7 ▸ Box.new w6 _ _ _
      have HB7 := Lib.hid (HB6.out.trans (hb7.mono HB6.out.size))
      have H67 := Lib.hid hb7
      have HW7 := Lib.hid hw7
      unfold pageV at HW7 ⊢
      clear hown6 hb6 hb7 hw7
      go_wp2_with fail
      rw [HW7.out]
      refine (HR2.out _ (HO6.out.below H67.out)).mono ?_
      rintro e w8 ⟨v8, rfl, hown8, hb8⟩
      obtain ⟨A8, n8, c8, rfl, N8, hnc8, hcm8⟩ := hown8.byt.form
      obtain ⟨w9, hw9⟩ : ∃ w9, w8.alloc (.cells (pageV (kz : Int) (nz : Int) (.slice A8 n8 c8)) 28) = w9 := ⟨_, rfl⟩
      have hb9 : Below w8.heap.size w8 w9 := hw9 ▸ below_new w8 _
      have h79 : Below w7.heap.size w7 w9 := hb8.trans (hb9.mono hb8.size)
      have HBM9 := Lib.hid (HBM7.out.below h79)
      have HB9 := Lib.hid (HB7.out.trans (h79.mono HB7.out.size))
      have h69 : Below w6.heap.size w6 w9 := H67.out.trans (h79.mono H67.out.size)
      have HM9 := Lib.hid (HM6.out.below h69)
      have HX9 := Lib.hid (HX6.out.below h69)
      have HY9 := Lib.hid (HY6.out.below h69)
      have T1 := text_of (HO6.out.below h69)
      have T2 := text_of (HA6.out.below h69)
      have T3 := text_of (HC6.out.below h69)
      obtain ⟨m0, m1, m2⟩ := HBM9.out.cells
      obtain ⟨d0, d1, d2⟩ := HX9.out.cells
      obtain ⟨e0, e1, e2⟩ := HY9.out.cells
      have HW9 := Lib.hid hw9
      rw [← hw9] at T1 T2 T3 m0 m1 m2 d0 d1 d2 e0 e1 e2
      unfold pageV at HW9 T1 T2 T3 m0 m1 m2 d0 d1 d2 e0 e1 e2 ⊢
      clear hown8 hb8 hb9 hw9 h79 h69
      generalize (⟨lx.toArray⟩ : ByteArray) = sa at *
      generalize (⟨lb.toArray⟩ : ByteArray) = sb at *
      go_wp2_with fail
      rw [HW9.out]
      refine (same_any _ (kk : Int) (n : Int) (kk : Int) (n : Int) _ _ (padB l) l HM9.out (HV.out.below HB9.out)).mono ?_
      rw [padB_trim, show decide ((kk : Int) = (kk : Int) ∧ (n : Int) = (n : Int) ∧ trimR l = trimR l) = true from by simp]
      rintro e w10 ⟨rfl, hb10⟩
      go_wp2_with fail
      go_ret
      exact ⟨rfl, HB9.out.trans (hb10.mono HB9.out.size)⟩
    · by_cases hxb : lx = lb
      · subst hxb
        have HR2 := Lib.hid (fun W (h : Byt W (.slice A5 n5 c5) lx) => r5read_ok W _ _ h ho)
        unfold ReadE at HR2
        generalize (List.getD lx 3 0).toNat = kz at *
        generalize numW lx = nz at *
        refine (HRB.out _ _ HO5.out.byt).mono ?_
        rintro e w6 ⟨v6, rfl, hown6, hb6⟩
        have HO6 := Lib.hid (HO5.out.byt.below hb6)
        have HM6 := Lib.hid hown6.byt
        have HX6 := Lib.hid (HX5.out.below hb6)
        have HY6 := Lib.hid (HY5.out.below hb6)
        have HA6 := Lib.hid (HA5.out.below hb6)
        have HC6 := Lib.hid (HC5.out.below hb6)
        have HB6 := Lib.hid (HB5.out.trans (hb6.mono HB5.out.size))
        obtain ⟨A6, n6, c6, rfl, N6, hnc6, hcm6⟩ := hown6.byt.form
        obtain ⟨w7, hw7⟩ : ∃ w7, w6.alloc (.cells (pageV (kk : Int) (n : Int) (.slice A6 n6 c6)) 28) = w7 := ⟨_, rfl⟩
        have hb7 : Below w6.heap.size w6 w7 := hw7 ▸ below_new w6 _
        have HBM7 : Hid (Box w7 w6.heap.size kk n (.slice A6 n6 c6)) := hw7 ▸ Box.new w6 _ _ _
        have HB7 := Lib.hid (HB6.out.trans (hb7.mono HB6.out.size))
        have H67 := Lib.hid hb7
        have HW7 := Lib.hid hw7
        unfold pageV at HW7 ⊢
        clear hown6 hb6 hb7 hw7
        go_wp2_with fail
        rw [HW7.out]
        refine (HR2.out _ (HO6.out.below H67.out)).mono ?_
        rintro e w8 ⟨v8, rfl, hown8, hb8⟩
        obtain ⟨A8, n8, c8, rfl, N8, hnc8, hcm8⟩ := hown8.byt.form
        obtain ⟨w9, hw9⟩ : ∃ w9, w8.alloc (.cells (pageV (kz : Int) (nz : Int) (.slice A8 n8 c8)) 28) = w9 := ⟨_, rfl⟩
        have hb9 : Below w8.heap.size w8 w9 := hw9 ▸ below_new w8 _
        have h79 : Below w7.heap.size w7 w9 := hb8.trans (hb9.mono hb8.size)
        have HBM9 := Lib.hid (HBM7.out.below h79)
        have HB9 := Lib.hid (HB7.out.trans (h79.mono HB7.out.size))
        have h69 : Below w6.heap.size w6 w9 := H67.out.trans (h79.mono H67.out.size)
        have HM9 := Lib.hid (HM6.out.below h69)
        have HX9 := Lib.hid (HX6.out.below h69)
        have HY9 := Lib.hid (HY6.out.below h69)
        have T1 := text_of (HO6.out.below h69)
        have T2 := text_of (HA6.out.below h69)
        have T3 := text_of (HC6.out.below h69)
        obtain ⟨m0, m1, m2⟩ := HBM9.out.cells
        obtain ⟨d0, d1, d2⟩ := HX9.out.cells
        obtain ⟨e0, e1, e2⟩ := HY9.out.cells
        have HW9 := Lib.hid hw9
        rw [← hw9] at T1 T2 T3 m0 m1 m2 d0 d1 d2 e0 e1 e2
        unfold pageV at HW9 T1 T2 T3 m0 m1 m2 d0 d1 d2 e0 e1 e2 ⊢
        clear hown8 hb8 hb9 hw9 h79 h69
        have E1 := bytes_eq lx la
        rw [decide_eq_false hxa] at E1
        generalize (⟨la.toArray⟩ : ByteArray) = sa at *
        generalize (⟨lx.toArray⟩ : ByteArray) = sb at *
        go_wp2_with fail
        rw [HW9.out]
        refine (same_any _ (kk : Int) (n : Int) (kk : Int) (n : Int) _ _ (padB l2) l2 HM9.out (HV2.out.below HB9.out)).mono ?_
        rw [padB_trim, show decide ((kk : Int) = (kk : Int) ∧ (n : Int) = (n : Int) ∧ trimR l2 = trimR l2) = true from by simp]
        rintro e w10 ⟨rfl, hb10⟩
        go_wp2_with fail
        go_ret
        exact ⟨rfl, HB9.out.trans (hb10.mono HB9.out.size)⟩
      · have HRX := Lib.hid (read_ok _ _ lx HO5.out.byt ho)
        unfold ReadE at HRX
        generalize (lx.getD 3 0).toNat = kx at *
        generalize numW lx = nx at *
        have HR2 := Lib.hid (fun W (h : Byt W (.slice A5 n5 c5) lx) => r5read_ok W _ _ h ho)
        unfold ReadE at HR2
        generalize (List.getD lx 3 0).toNat = kz at *
        generalize numW lx = nz at *
        refine (HRX.out).mono ?_
        rintro e w6 ⟨v6, rfl, hown6, hb6⟩
        have HO6 := Lib.hid (HO5.out.byt.below hb6)
        have HM6 := Lib.hid hown6.byt
        have HX6 := Lib.hid (HX5.out.below hb6)
        have HY6 := Lib.hid (HY5.out.below hb6)
        have HA6 := Lib.hid (HA5.out.below hb6)
        have HC6 := Lib.hid (HC5.out.below hb6)
        have HB6 := Lib.hid (HB5.out.trans (hb6.mono HB5.out.size))
        obtain ⟨A6, n6, c6, rfl, N6, hnc6, hcm6⟩ := hown6.byt.form
        obtain ⟨w7, hw7⟩ : ∃ w7, w6.alloc (.cells (pageV (kx : Int) (nx : Int) (.slice A6 n6 c6)) 28) = w7 := ⟨_, rfl⟩
        have hb7 : Below w6.heap.size w6 w7 := hw7 ▸ below_new w6 _
        have HBM7 : Hid (Box w7 w6.heap.size kx nx (.slice A6 n6 c6)) := hw7 ▸ Box.new w6 _ _ _
        have HB7 := Lib.hid (HB6.out.trans (hb7.mono HB6.out.size))
        have H67 := Lib.hid hb7
        have HW7 := Lib.hid hw7
        unfold pageV at HW7 ⊢
        clear hown6 hb6 hb7 hw7
        go_wp2_with fail
        rw [HW7.out]
        refine (HR2.out _ (HO6.out.below H67.out)).mono ?_
        rintro e w8 ⟨v8, rfl, hown8, hb8⟩
        obtain ⟨A8, n8, c8, rfl, N8, hnc8, hcm8⟩ := hown8.byt.form
        obtain ⟨w9, hw9⟩ : ∃ w9, w8.alloc (.cells (pageV (kz : Int) (nz : Int) (.slice A8 n8 c8)) 28) = w9 := ⟨_, rfl⟩
        have hb9 : Below w8.heap.size w8 w9 := hw9 ▸ below_new w8 _
        have h79 : Below w7.heap.size w7 w9 := hb8.trans (hb9.mono hb8.size)
        have HBM9 := Lib.hid (HBM7.out.below h79)
        have HB9 := Lib.hid (HB7.out.trans (h79.mono HB7.out.size))
        have h69 : Below w6.heap.size w6 w9 := H67.out.trans (h79.mono H67.out.size)
        have HM9 := Lib.hid (HM6.out.below h69)
        have HX9 := Lib.hid (HX6.out.below h69)
        have HY9 := Lib.hid (HY6.out.below h69)
        have T1 := text_of (HO6.out.below h69)
        have T2 := text_of (HA6.out.below h69)
        have T3 := text_of (HC6.out.below h69)
        obtain ⟨m0, m1, m2⟩ := HBM9.out.cells
        obtain ⟨d0, d1, d2⟩ := HX9.out.cells
        obtain ⟨e0, e1, e2⟩ := HY9.out.cells
        have HW9 := Lib.hid hw9
        rw [← hw9] at T1 T2 T3 m0 m1 m2 d0 d1 d2 e0 e1 e2
        unfold pageV at HW9 T1 T2 T3 m0 m1 m2 d0 d1 d2 e0 e1 e2 ⊢
        clear hown8 hb8 hb9 hw9 h79 h69
        have E1 := bytes_eq lx la
        rw [decide_eq_false hxa] at E1
        have E2 := bytes_eq lx lb
        rw [decide_eq_false hxb] at E2
        generalize (⟨lx.toArray⟩ : ByteArray) = sx at *
        generalize (⟨la.toArray⟩ : ByteArray) = sa at *
        generalize (⟨lb.toArray⟩ : ByteArray) = sb at *
        go_wp2_with fail
        rw [HW9.out]
        go_ret
        exact ⟨rfl, HB9.out⟩
  · refine (read_bad _ _ lx HO5.out.byt ho).mono ?_
    rintro e w6 ⟨rfl, hb6⟩
    have HB6 := Lib.hid (HB5.out.trans (hb6.mono HB5.out.size))
    have hxa : lx ≠ la := fun e => ho (HOI.out lx e)
    have hxb : lx ≠ lb := fun e => ho (HOJ.out lx e)
    have hb7 : Below w6.heap.size w6 (w6.alloc (.cells (pageV 0 0 (.slice none 0 0)) 28)) := below_new w6 _
    have h57 := hb6.trans (hb7.mono hb6.size)
    have T1 := text_of (HO5.out.byt.below h57)
    have T2 := text_of (HA5.out.below h57)
    have T3 := text_of (HC5.out.below h57)
    have HB7 := Lib.hid (HB6.out.trans (hb7.mono HB6.out.size))
    unfold pageV at T1 T2 T3 HB7 ⊢
    have E1 := bytes_eq lx la
    rw [decide_eq_false hxa] at E1
    have E2 := bytes_eq lx lb
    rw [decide_eq_false hxb] at E2
    generalize (⟨lx.toArray⟩ : ByteArray) = sx at *
    generalize (⟨la.toArray⟩ : ByteArray) = sa at *
    generalize (⟨lb.toArray⟩ : ByteArray) = sb at *
    clear hb6 hb7 h57 hxa hxb
    go_wp2_with fail
    go_ret
    exact ⟨rfl, HB7.out⟩

theorem walk (w : World) (k : Int) (n : Nat) (vb : Value) (l : List UInt8) (k2 : Int) (n2 : Nat) (vb2 : Value) (l2 : List UInt8) (x y : Int) (hv : Byt w vb l) (_hk : -9223372036854775808 ≤ k ∧ k ≤ 9223372036854775807) (hn : n < 4294967296) (hv2 : Byt w vb2 l2) (_hk2 : -9223372036854775808 ≤ k2 ∧ k2 ≤ 9223372036854775807) (_hn2 : n2 < 4294967296) (_hx : -9223372036854775808 ≤ x ∧ x ≤ 9223372036854775807) (_hy : -9223372036854775808 ≤ y ∧ y ≤ 9223372036854775807) :
    Calls Tryd.prog 7 #[.agg (pageV k (n : Int) vb), .agg (pageV k2 (n2 : Int) vb2), .int .i64 x, .int .i64 y] w fun e w' => e = .returned (.bool true) ∧ Below w.heap.size w w' := by
  by_cases h : 4080 < l.length ∨ 4080 < l2.length
  · exact walk_great w k n vb l k2 n2 vb2 l2 x y hv hv2 hn h
  · by_cases hk : 1 ≤ k ∧ k ≤ 7
    · exact walk_ok w k n vb l k2 n2 vb2 l2 x y hv hv2 hn (by omega) (by omega) hk
    · exact walk_bad w k n vb l k2 n2 vb2 l2 x y hv hv2 hn (by omega) (by omega) hk

set_option maxRecDepth 100000 in
theorem lifted (os : Os) (started : os.Started) (H : Type) (enc : TypeId × Value → H) :
    ReturnsInHanded {} Tryd.checked os 7 .any (fun w args => (Rows.pageTornSpec.pre enc Tryd.prog Tryd.f7 Rows.pageTornRow.domain false w args ∧ laidMetH Tryd.prog Rows.pageTornRow.laid w) ∧ sizedMet enc Tryd.prog Tryd.f7 (OpenSpec.ofChange Rows.pageTornSpec) false w args) (Rows.pageTornSpec.post enc Tryd.prog Tryd.f7 false true false false) := by
  refine returnsInHanded_of_change_and (C := Tryd.checked) (X := fun w _ => laidMetH Tryd.prog Rows.pageTornRow.laid w) (fun _ _ _ hh h => h.of_heap hh) ownKnobs started (by kernel_rfl) Tryd.func7
    (ChangeSpec.witness_shaped (enc := enc) (C := Tryd.checked) (os := os) (X := fun w _ => laidMetH Tryd.prog Rows.pageTornRow.laid w) false (World.laidAll Tryd.prog os Rows.pageTornRow.laid) #[.agg (pageV 0 0 (.slice none 0 0)), .agg (pageV 0 0 (.slice none 0 0)), .int .i64 0, .int .i64 0] 8 (World.laidAll_os _ _ _)
      (World.shaped_of_ZipB (by kernel_rfl) (by kernel_rfl)) (by kernel_rfl) (by kernel_rfl) (by kernel_rfl)
      (by rw [MakeChecks.laidMetH_plain _ _ _ (by kernel_rfl)]; exact laidMet_laidAll _ (by kernel_rfl) (by kernel_rfl))) ?_
  intro W base args ds gs before hval0 hW hcnd _ _ _
  have hval : ∀ (j : Nat) t v, Tryd.f7.params[j]? = some t → args[j]? = some v → Value.okWide Tryd.prog W .any base t v := hval0
  have hW' := hW
  obtain ⟨p, q, hA0, hV, rfl, hfz, hnd⟩ := hW
  have hA : DataW.TrodAll enc Tryd.prog W 0 (fun _ => true) true Tryd.f7.params.toList args.toList ds p := hA0
  rw [Tryd.params7] at hA hval
  obtain ⟨v0, vs0, d0, ds0, p0, q0, hargs, rfl, rfl, h0, r0⟩ := trodAll_cons hA
  obtain ⟨v1, vs1, d1, ds1, p1, q1, rfl, rfl, rfl, h1, r1⟩ := trodAll_cons r0
  obtain ⟨v2, vs2, d2, ds2, p2, q2, rfl, rfl, rfl, h2, r2⟩ := trodAll_cons r1
  obtain ⟨v3, vs3, d3, ds3, p3, q3, rfl, rfl, rfl, h3, r3⟩ := trodAll_cons r2
  obtain ⟨rfl, rfl, rfl⟩ := trodAll_nil r3
  obtain rfl : args = #[v0, v1, v2, v3] := by cases args; simp_all
  obtain ⟨rfl, rfl⟩ := trodVars_none hV
  have k0 := h0
  have lt0 : ∀ x ∈ p0, x.block < W.heap.size := by obtain ⟨m, hm⟩ := k0; exact DataW.trod_lt m _ _ _ hm
  obtain ⟨kd0, nm0, vb0, bd0, rfl, b0, bk0, bn0⟩ := open_page (hval 0 28 v0 rfl rfl) h0
  have k1 := h1
  have lt1 : ∀ x ∈ p1, x.block < W.heap.size := by obtain ⟨m, hm⟩ := k1; exact DataW.trod_lt m _ _ _ hm
  obtain ⟨kd1, nm1, vb1, bd1, rfl, b1, bk1, bn1⟩ := open_page (hval 1 28 v1 rfl rfl) h1
  obtain ⟨a2, rfl, rfl, rfl, w2⟩ := open_int Tryd.underlying3 (hval 2 3 v2 rfl rfl) h2
  have b2 := open_i64 w2
  obtain ⟨a3, rfl, rfl, rfl, w3⟩ := open_int Tryd.underlying3 (hval 3 3 v3 rfl rfl) h3
  have b3 := open_i64 w3
  clear hA0 hval0
  refine (walk W kd0 nm0 vb0 bd0 kd1 nm1 vb1 bd1 a2 a3 b0 bk0 bn0 b1 bk1 bn1 b2 b3).mono fun e W' ⟨he, bel⟩ => ?_
  subst he
  exact ⟨_, rfl, _, _, _, [], _, [], hW', trodAll_mk1 (shut_bool Tryd.underlying4 _), (trodAll_cons_mk (Below.trod laidOuts (by kernel_rfl) (of_decide_eq_true (by kernel_rfl)) k0 bel lt0) (trodAll_cons_mk (Below.trod laidOuts (by kernel_rfl) (of_decide_eq_true (by kernel_rfl)) k1 bel lt1) (trodAll_cons_mk (shut_int Tryd.underlying3 w2) (trodAll_cons_mk (shut_int Tryd.underlying3 w3) trodAll_mk0)))), rfl, bel.frame _, fun h => by cases h⟩

theorem over : Rows.pageTornRow.holds Tryd.pinned (OpenSpec.ofChange Rows.pageTornSpec) :=
  OpenClaim.holds_of_wide 7 Tryd.f7 rfl rfl rfl rfl rfl rfl rfl ⟨rfl, rfl, rfl, rfl, rfl⟩ rfl rfl rfl rfl rfl (by kernel_rfl) Tryd.func7 (by kernel_rfl)
    (of_decide_eq_true (by kernel_rfl)) (by unfold Func.isWrapper; first | (rw [if_pos (by decide +kernel)]; kernel_rfl) | (rw [if_neg (by decide +kernel)]; exact ⟨rfl, rfl⟩))
    (fun os started H enc _ => lifted os started H enc)

theorem proved : Rows.PageTornCardSaid :=
  Claim7.holds_tied_plain_at .later [] [.data, .pinned] true Rows.pageTornCard.stood.harness false over (fun _ h => by cases h) (by kernel_rfl) (fun _ h => by cases h) pageTorn_row_tie rfl ⟨rfl, rfl⟩ (by kernel_rfl) rfl
    (fun f fn hf hfn => by
      obtain rfl : f = 7 := Option.some.inj ((show Tryd.prog.funcNamed "tallyman/tallymanlaw05.PageTorn" = some 7 by kernel_rfl).symm.trans hf) |>.symm
      obtain rfl : fn = Tryd.f7 := (Option.some.inj (Tryd.func7.symm.trans hfn)).symm
      exact ⟨by kernel_rfl, fun j t ht => by
        rw [Tryd.params7] at ht
        have hm : t ∈ [28, 28, 3, 3] := by simpa using Array.mem_of_getElem? ht
        have hall : ([28, 28, 3, 3].all fun u => !Tryd.prog.wantsStandIn u) = true := by kernel_rfl
        exact (show Tryd.prog.wantsStandIn t = false by simpa using List.all_eq_true.1 hall t hm)⟩)
    (by kernel_rfl)
#print axioms proved
end Go.Proofs.YtagchbpofoidmaaDoor.pageTorn
