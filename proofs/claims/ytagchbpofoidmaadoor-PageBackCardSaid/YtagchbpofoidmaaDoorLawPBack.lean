/-
  The statement PageBack: a page is its bytes, and no other bytes are; one byte turned is not read. Conditions: none.
-/
import Derived.Test.YtagchbpofoidmaaDoorPgH
namespace Go.Proofs.YtagchbpofoidmaaDoor.pageBack
open Go.ChangeShapes Go.WideShapes Go.ChangeAt Go.RowKit Go.Maps
set_option maxRecDepth 100000
set_option linter.unusedVariables false

set_option maxRecDepth 100000 in
set_option maxHeartbeats 40000000 in
theorem walk_great (w : World) (k : Int) (n : Nat) (vb : Value) (l : List UInt8) (v2 : Value) (lb : List UInt8) (x : Int) (y : UInt8) (hv : Byt w vb l) (hb : Byt w v2 lb) (hk : -9223372036854775808 ≤ k ∧ k ≤ 9223372036854775807) (hn : n < 4294967296) (h : 5000 < l.length ∨ 5000 < lb.length) :
    Calls Tryd.prog 6 #[.agg (pageV k (n : Int) vb), v2, .int .i64 x, .int .u8 (y.toNat : Int)] w fun e w' => e = .returned (.bool true) ∧ Below w.heap.size w w' := by
  obtain ⟨A, m, c, rfl, N, hnc, hcm⟩ := hv.form
  obtain ⟨A2, m2, c2, rfl, N2, hnc2, hcm2⟩ := hb.form
  obtain ⟨w0, hw0⟩ : ∃ w0, w.alloc (.cells (pageV k n (.slice A m c)) 28) = w0 := ⟨_, rfl⟩
  have HX0 : Hid (Box w0 w.heap.size k n (.slice A m c)) := hw0 ▸ Box.new w k n _
  have HB0 : Hid (Below w.heap.size w w0) := hw0 ▸ below_new w _
  have HW0 := Lib.hid hw0
  have HV := Lib.hid hv
  have HV2 := Lib.hid hb
  unfold pageV at HW0 ⊢
  clear hv hb hw0
  have hh : (5000 : Int) < (m : Int) ∨ (5000 : Int) < (m2 : Int) := by have := N.out; have := N2.out; omega
  by_cases h1 : (5000 : Int) < (m : Int)
  · clear hh h
    go_enter Tryd.func6, Tryd.ntmps6
    go_wp2_with fail
    rw [HW0.out]
    refine (lives5_any _).mono ?_
    rintro e w1 ⟨rfl, hb1⟩
    obtain ⟨d0, d1, d2⟩ := (HX0.out.below hb1).cells
    go_wp2_with fail
    go_ret
    exact ⟨rfl, HB0.out.trans (hb1.mono HB0.out.size)⟩
  · have h2 : (5000 : Int) < (m2 : Int) := by omega
    clear hh h
    go_enter Tryd.func6, Tryd.ntmps6
    go_wp2_with fail
    rw [HW0.out]
    refine (lives5_any _).mono ?_
    rintro e w1 ⟨rfl, hb1⟩
    obtain ⟨d0, d1, d2⟩ := (HX0.out.below hb1).cells
    go_wp2_with fail
    go_ret
    exact ⟨rfl, HB0.out.trans (hb1.mono HB0.out.size)⟩
set_option maxRecDepth 100000 in
set_option maxHeartbeats 40000000 in
theorem walk_bad (w : World) (k : Int) (n : Nat) (vb : Value) (l : List UInt8) (v2 : Value) (lb : List UInt8) (x : Int) (y : UInt8) (hv : Byt w vb l) (hb : Byt w v2 lb) (hk : -9223372036854775808 ≤ k ∧ k ≤ 9223372036854775807) (hn : n < 4294967296) (hl : l.length ≤ 5000) (hl2 : lb.length ≤ 5000) (ho : ¬ okB lb) :
    Calls Tryd.prog 6 #[.agg (pageV k (n : Int) vb), v2, .int .i64 x, .int .u8 (y.toNat : Int)] w fun e w' => e = .returned (.bool true) ∧ Below w.heap.size w w' := by
  obtain ⟨A, m, c, rfl, N, hnc, hcm⟩ := hv.form
  obtain ⟨A2, m2, c2, rfl, N2, hnc2, hcm2⟩ := hb.form
  obtain ⟨w0, hw0⟩ : ∃ w0, w.alloc (.cells (pageV k n (.slice A m c)) 28) = w0 := ⟨_, rfl⟩
  have HX0 : Hid (Box w0 w.heap.size k n (.slice A m c)) := hw0 ▸ Box.new w k n _
  have HB0 : Hid (Below w.heap.size w w0) := hw0 ▸ below_new w _
  have HW0 := Lib.hid hw0
  have HV := Lib.hid hv
  have HV2 := Lib.hid hb
  have HN := Lib.hid hn
  have HL := Lib.hid hl
  have HL2 := Lib.hid hl2
  have h1 : ¬ (5000 : Int) < (m : Int) := by have := N.out; omega
  have h2 : ¬ (5000 : Int) < (m2 : Int) := by have := N2.out; omega
  unfold pageV at HW0 ⊢
  clear hv hb hw0 hl hl2
  go_enter Tryd.func6, Tryd.ntmps6
  go_wp2_with fail
  rw [HW0.out]
  refine (lives5_any _).mono ?_
  rintro e w1 ⟨rfl, hb1⟩
  have HX1 := Lib.hid (HX0.out.below hb1)
  have HB1 := Lib.hid (HB0.out.trans (hb1.mono HB0.out.size))
  obtain ⟨d0, d1, d2⟩ := (HX0.out.below hb1).cells
  clear hb1
  go_wp2_with fail
  refine (kitown_any _ _ lb (HV2.out.below HB1.out) (by have := HL2.out; omega)).mono ?_
  rintro e w2 ⟨v3, rfl, hown2, hb2⟩
  have HX2 := Lib.hid (HX1.out.below hb2)
  have HB2 := Lib.hid (HB1.out.trans (hb2.mono HB1.out.size))
  have HO2 := Lib.hid hown2
  obtain ⟨A3, n3, c3, rfl, N3, hnc3, hcm3⟩ := hown2.byt.form
  clear hown2 hb2 d0 d1 d2
  go_wp2_with fail
  refine (read_bad _ _ lb HO2.out.byt ho).mono ?_
  rintro e w4 ⟨rfl, hb4⟩
  have HX4 := Lib.hid (HX2.out.below hb4)
  have HB4 := Lib.hid (HB2.out.trans (hb4.mono HB2.out.size))
  have HNE : Hid (w.heap.size ≠ w4.heap.size) := by have := HX4.out.lt; rw [Hid]; omega
  have HQB : Hid (w.heap.size ≤ w4.heap.size) := HB4.out.size
  obtain ⟨wS, hwS⟩ : ∃ wS, w4.alloc (.cells (pageV 0 0 (.slice none 0 0)) 28) = wS := ⟨_, rfl⟩
  have HXQ : Hid (Box wS w4.heap.size 0 0 (.slice none 0 0)) := hwS ▸ Box.new w4 0 0 _
  have HXS : Hid (Box wS w.heap.size k n (.slice A m c)) := hwS ▸ HX4.out.below (below_new w4 _)
  have HBS : Hid (Below w.heap.size w wS) := hwS ▸ HB4.out.alloc HB4.out.size _
  have HWS := Lib.hid hwS
  obtain ⟨d0, d1, d2⟩ := HXS.out.cells
  rw [← hwS] at d0 d1 d2
  unfold pageV at HWS d0 d1 d2 ⊢
  clear hwS hb4
  go_wp2_with fail
  clear d0 d1 d2
  rw [HWS.out]
  by_cases hp : (1 ≤ k ∧ k ≤ 7) ∧ l.length ≤ 4080
  · obtain ⟨kk, rfl⟩ : ∃ kk : Nat, k = (kk : Int) := ⟨k.toNat, by omega⟩
    obtain ⟨⟨hp1, hp7⟩, hpl⟩ := hp
    have HP1 : Hid (1 ≤ kk) := by rw [Hid]; omega
    have HP7 : Hid (kk ≤ 7) := by rw [Hid]; omega
    have HPL := Lib.hid hpl
    have HKB : Hid (kindB (pageB kk n l) = kk) := by rw [Hid, kindB_ok (pageB_ok HP1.out HP7.out hpl), pageB_kind kk n l (by omega)]
    refine (bytes_ok _ kk n _ l (HV.out.below HBS.out) HP1.out HP7.out hpl HN.out).mono ?_
    rintro e w6 ⟨v6, rfl, hown6, hb6⟩
    have HX6 := Lib.hid (HXS.out.below hb6)
    have HXQ6 := Lib.hid (HXQ.out.below hb6)
    have HB6 := Lib.hid (HBS.out.trans (hb6.mono HBS.out.size))
    have hlen6 : (pageB kk n l).length = 4096 := pageB_len hpl
    obtain ⟨g, cg, rfl, hg1, hg2, hc1, hc2⟩ := hown6.at (by omega)
    have HG : Hid (w.heap.size ≤ g) := by have := HBS.out.size; rw [Hid]; omega
    rw [hlen6] at hown6 hc1 ⊢
    have HO6 := Lib.hid hown6
    have HLEN := Lib.hid hlen6
    clear hown6 hb6 hlen6 hg1 hg2 hp1 hp7 hpl
    go_wp2_with fail
    refine (kitown_any _ _ _ HO6.out.byt (by have := HLEN.out; omega)).mono ?_
    rintro e w7 ⟨v7, rfl, hown7, hb7⟩
    have HX7 := Lib.hid (HX6.out.below hb7)
    have HXQ7 := Lib.hid (HXQ6.out.below hb7)
    have HB7 := Lib.hid (HB6.out.trans (hb7.mono HB6.out.size))
    have HO7 := Lib.hid (Own.keep HO6.out hb7)
    have HR7 := Lib.hid hown7.byt
    obtain ⟨A7, n7, c7, rfl, N7, hnc7, hcm7⟩ := hown7.byt.form
    clear hown7 hb7
    go_wp2_with fail
    refine (read_page _ _ kk n l HR7.out HP1.out HP7.out HPL.out HN.out).mono ?_
    rintro e w8 ⟨v8, rfl, hown8, hb8⟩
    have HX8 := Lib.hid (HX7.out.below hb8)
    have HXQ8 := Lib.hid (HXQ7.out.below hb8)
    have HB8 := Lib.hid (HB7.out.trans (hb8.mono HB7.out.size))
    have HO8 := Lib.hid (Own.keep HO7.out hb8)
    have HR8 := Lib.hid hown8
    obtain ⟨A8, n8, c8, rfl, N8, hnc8, hcm8⟩ := hown8.byt.form
    obtain ⟨d0, d1, d2⟩ := HXQ8.out.cells
    have f0 := HXQ8.out.frozen 0
    have f1 := HXQ8.out.frozen 1
    have f2 := HXQ8.out.frozen 2
    clear hown8 hb8
    unfold pageV
    go_wp2_with fail
    have HXQ9 := Lib.hid (HXQ8.out.set kk n (.slice A8 n8 c8))
    have HX9 := Lib.hid (HX8.out.set3 HXQ8.out HNE.out (.int .i64 kk) (.int .u32 n) (.slice A8 n8 c8))
    have HB9 := Lib.hid (bel_set3 HB8.out HQB.out (.int .i64 kk) (.int .u32 n) (.slice A8 n8 c8))
    have HO9 := Lib.hid (Own.set3 HXQ8.out (.int .i64 kk) (.int .u32 n) (.slice A8 n8 c8) HO8.out)
    have HQ9 := Lib.hid (Own.set3 HXQ8.out (.int .i64 kk) (.int .u32 n) (.slice A8 n8 c8) HR8.out)
    generalize ((w8.setCell ⟨w4.heap.size, 0, none⟩ (.int .i64 kk)).setCell ⟨w4.heap.size, 1, none⟩ (.int .u32 n)).setCell ⟨w4.heap.size, 2, none⟩ (.slice A8 n8 c8) = W9 at *
    have HXd : Hid (Box W9.drew w.heap.size kk n (.slice A m c)) := HX9.out
    have HXQd : Hid (Box W9.drew w4.heap.size kk n (.slice A8 n8 c8)) := HXQ9.out
    have HBd : Hid (Below w.heap.size w W9.drew) := HB9.out.drew
    have HOd : Hid (Own W9.drew _ 5 (.slice (some ⟨g, 0, none⟩) 4096 cg) (pageB kk n l)) := HO9.out
    have HQd : Hid (Byt W9.drew (.slice A8 n8 c8) (padB l)) := HQ9.out.byt
    clear d0 d1 d2 f0 f1 f2 HX9 HXQ9 HB9 HO9 HQ9
    refine wp_region_R (R := fun x y => Below x.heap.size x y) (by kernel_rfl) (fun _ => Below.refl _ _) (fun h k => h.trans (k.mono h.size)) (by kernel_rfl) (fun d v c a w h => by cases d <;> exact h)
      [(0, false), (1, false), (2, false), (3, false), (4, false), (5, true), (6, false), (7, false), (8, false), (9, false), (11, false), (12, false), (10, true), (13, false), (14, false), (15, false), (16, false), (17, false), (18, false), (19, false)] rfl (by kernel_rfl) (by kernel_rfl) ?_
    simp only [sel, List.getElem?_toArray, List.getElem?_cons_succ, List.getElem?_cons_zero]
    generalize W9.drew = wd at *
    iterate 3 (refine sch_take ?_ rfl ?_ ?_; rotate_left; (focus (intro u hu; go_simp <;> rfl)); simp only [Act.put, List.setIfInBounds_toArray, List.set_cons_zero, List.set_cons_succ])
    (refine sch_take ?_ rfl ?_ ?_; rotate_left; (focus (intro u hu; have cc := (HXd.out.below hu).cells; obtain ⟨c0, c1, c2⟩ := cc; clear hu; go_simp <;> rfl)); simp only [Act.put, List.setIfInBounds_toArray, List.set_cons_zero, List.set_cons_succ])
    (refine sch_take ?_ rfl ?_ ?_; rotate_left; (focus (intro u hu; have cc := (HXQd.out.below hu).cells; obtain ⟨c0, c1, c2⟩ := cc; clear hu; go_simp <;> rfl)); simp only [Act.put, List.setIfInBounds_toArray, List.set_cons_zero, List.set_cons_succ])
    refine sch_call rfl ?_
    intro K hK
    go_simp
    refine (same_any _ (kk : Int) (n : Int) (kk : Int) (n : Int) _ _ l (padB l) (HV.out.below HBd.out) HQd.out).mono ?_
    rw [padB_trim, show decide ((kk : Int) = (kk : Int) ∧ (n : Int) = (n : Int) ∧ trimR l = trimR l) = true from by simp]; rintro e w10 ⟨rfl, hb10⟩
    go_wp2_with fail
    refine hK _ _ hb10 ?_
    clear hK K
    have HXe := Lib.hid (HXd.out.below hb10)
    have HBe := Lib.hid (HBd.out.trans (hb10.mono HBd.out.size))
    have HOe := Lib.hid (Own.keep HOd.out hb10)
    clear hb10
    iterate 5 (refine sch_take ?_ rfl ?_ ?_; rotate_left; (focus (intro u hu; go_simp <;> rfl)); simp only [Act.put, List.setIfInBounds_toArray, List.set_cons_zero, List.set_cons_succ])
    (refine sch_take ?_ rfl ?_ ?_; rotate_left; (focus (intro u hu; have cc := (HXe.out.below hu).cells.1; clear hu; go_simp <;> rfl)); simp only [Act.put, List.setIfInBounds_toArray, List.set_cons_zero, List.set_cons_succ])
    refine sch_call rfl ?_
    intro K hK
    go_simp
    refine (kind_any _ _ (pageB kk n l) HOe.out.byt).mono ?_
    rw [HKB.out]; rintro e w11 ⟨rfl, hb11⟩
    go_wp2_with fail
    refine hK _ _ hb11 ?_
    clear hK K
    have HXf := Lib.hid (HXe.out.below hb11)
    have HBf := Lib.hid (HBe.out.trans (hb11.mono HBe.out.size))
    have HOf := Lib.hid (Own.keep HOe.out hb11)
    clear hb11
    iterate 7 (refine sch_take ?_ rfl ?_ ?_; rotate_left; (focus (intro u hu; go_simp <;> rfl)); simp only [Act.put, List.setIfInBounds_toArray, List.set_cons_zero, List.set_cons_succ])
    refine sch_nil ?_
    go_wp2_with fail
    refine (pick_any x 4096 _ (by omega) (by omega)).mono ?_
    rintro e w12 ⟨rfl, rfl⟩
    have hj1 := Int.emod_nonneg x (show (4096 : Int) ≠ 0 by omega)
    have hj2 := Int.emod_lt_of_pos x (show (0 : Int) < 4096 by omega)
    obtain ⟨j, hj⟩ : ∃ j : Nat, x % 4096 = (j : Int) := ⟨(x % 4096).toNat, by omega⟩
    rw [hj] at hj1 hj2 ⊢
    have HJ : Hid (j < 4096) := by rw [Hid]; omega
    have hcell := own_cell HOf.out (j := j) (by have := HLEN.out; have := HJ.out; omega)
    have hfr := own_frozen HOf.out HLEN.out j
    have EX := byte_xor ((pageB kk n l).getD j 0) y
    have HS := Lib.hid (own_set HOf.out HLEN.out j ((pageB kk n l).getD j 0 ^^^ y))
    have HBg := Lib.hid (HBf.out.setCell (p := ⟨g, j, none⟩) HG.out (.int .u8 (((pageB kk n l).getD j 0 ^^^ y).toNat : Int)))
    have HOK := Lib.hid (pageB_ok (n := n) HP1.out HP7.out HPL.out)
    have HTN : Hid (y = 0 ∧ (pageB kk n l).set j ((pageB kk n l).getD j 0 ^^^ y) = pageB kk n l ∨ y ≠ 0 ∧ ¬ okB ((pageB kk n l).set j ((pageB kk n l).getD j 0 ^^^ y))) := by
      by_cases hy : y = 0
      · exact .inl ⟨hy, by rw [hy, xor0, set_same]⟩
      · exact .inr ⟨hy, okB_turned HOK.out HJ.out (xor_ne hy)⟩
    clear hj
    generalize (pageB kk n l).getD j 0 ^^^ y = z at *
    generalize (pageB kk n l).getD j 0 = z0 at *
    go_wp2_with fail
    rcases HTN.out with ⟨hy, hset⟩ | ⟨hy, hset⟩
    · rw [hset] at HS
      subst hy
      refine (read_page _ _ kk n l HS.out.byt HP1.out HP7.out HPL.out HN.out).mono ?_
      rintro e w13 ⟨v13, rfl, hown13, hb13⟩
      unfold pageV
      go_wp2_with fail
      go_ret
      exact ⟨rfl, HBg.out.trans (hb13.mono HBg.out.size)⟩
    · refine (read_bad _ _ _ HS.out.byt hset).mono ?_
      rintro e w13 ⟨rfl, hb13⟩
      have hy0 : ((y.toNat : Int) == 0) = false := by
        have : y.toNat ≠ 0 := fun e => hy (UInt8.toNat_inj.1 e)
        simp; exact this
      unfold pageV
      go_wp2_with fail
      go_ret
      exact ⟨rfl, HBg.out.trans (hb13.mono HBg.out.size)⟩
  · have HPP := Lib.hid hp
    refine (bytes_bad _ k n _ l (HV.out.below HBS.out) hp).mono ?_
    rintro e w6 ⟨rfl, hb6⟩
    have HB6 := Lib.hid (HBS.out.trans (hb6.mono HBS.out.size))
    obtain ⟨d0, d1, d2⟩ := (HXS.out.below hb6).cells
    clear hb6 hp
    by_cases hk1 : k < 1
    · go_wp2_with fail
      go_ret
      exact ⟨rfl, HB6.out⟩
    · by_cases hk7 : 7 < k
      · go_wp2_with fail
        go_ret
        exact ⟨rfl, HB6.out⟩
      · have h48 : (4080 : Int) < (m : Int) := by have := HPP.out; have := N.out; omega
        go_wp2_with fail
        go_ret
        exact ⟨rfl, HB6.out⟩
set_option maxRecDepth 100000 in
set_option maxHeartbeats 40000000 in
theorem walk_ok (w : World) (k : Int) (n : Nat) (vb : Value) (l : List UInt8) (v2 : Value) (lb : List UInt8) (x : Int) (y : UInt8) (hv : Byt w vb l) (hb : Byt w v2 lb) (hk : -9223372036854775808 ≤ k ∧ k ≤ 9223372036854775807) (hn : n < 4294967296) (hl : l.length ≤ 5000) (hl2 : lb.length ≤ 5000) (ho : okB lb) :
    Calls Tryd.prog 6 #[.agg (pageV k (n : Int) vb), v2, .int .i64 x, .int .u8 (y.toNat : Int)] w fun e w' => e = .returned (.bool true) ∧ Below w.heap.size w w' := by
  obtain ⟨A, m, c, rfl, N, hnc, hcm⟩ := hv.form
  obtain ⟨A2, m2, c2, rfl, N2, hnc2, hcm2⟩ := hb.form
  obtain ⟨w0, hw0⟩ : ∃ w0, w.alloc (.cells (pageV k n (.slice A m c)) 28) = w0 := ⟨_, rfl⟩
  have HX0 : Hid (Box w0 w.heap.size k n (.slice A m c)) := hw0 ▸ Box.new w k n _
  have HB0 : Hid (Below w.heap.size w w0) := hw0 ▸ below_new w _
  have HW0 := Lib.hid hw0
  have HV := Lib.hid hv
  have HV2 := Lib.hid hb
  have HN := Lib.hid hn
  have HL := Lib.hid hl
  have HL2 := Lib.hid hl2
  have h1 : ¬ (5000 : Int) < (m : Int) := by have := N.out; omega
  have h2 : ¬ (5000 : Int) < (m2 : Int) := by have := N2.out; omega
  unfold pageV at HW0 ⊢
  clear hv hb hw0 hl hl2
  go_enter Tryd.func6, Tryd.ntmps6
  go_wp2_with fail
  rw [HW0.out]
  refine (lives5_any _).mono ?_
  rintro e w1 ⟨rfl, hb1⟩
  have HX1 := Lib.hid (HX0.out.below hb1)
  have HB1 := Lib.hid (HB0.out.trans (hb1.mono HB0.out.size))
  obtain ⟨d0, d1, d2⟩ := (HX0.out.below hb1).cells
  clear hb1
  go_wp2_with fail
  refine (kitown_any _ _ lb (HV2.out.below HB1.out) (by have := HL2.out; omega)).mono ?_
  rintro e w2 ⟨v3, rfl, hown2, hb2⟩
  have HX2 := Lib.hid (HX1.out.below hb2)
  have HB2 := Lib.hid (HB1.out.trans (hb2.mono HB1.out.size))
  have HO2 := Lib.hid hown2
  obtain ⟨A3, n3, c3, rfl, N3, hnc3, hcm3⟩ := hown2.byt.form
  clear hown2 hb2 d0 d1 d2
  go_wp2_with fail
  refine (read_ok _ _ lb HO2.out.byt ho).mono ?_
  rintro e w4 ⟨v4, rfl, hown4, hb4⟩
  have HX4 := Lib.hid (HX2.out.below hb4)
  have HB4 := Lib.hid (HB2.out.trans (hb4.mono HB2.out.size))
  have HO4 := Lib.hid hown4.byt
  obtain ⟨A4, n4, c4, rfl, N4, hnc4, hcm4⟩ := hown4.byt.form
  have HOB := Lib.hid ho
  have hx3 := ho.2.1
  have HX3 := Lib.hid hx3
  have HNW := Lib.hid (numW_lt lb)
  have HPG := Lib.hid (okB_page ho)
  have HL16 : Hid ((lb.drop 16).length ≤ 4080) := by have := ho.1.1; rw [Hid, List.length_drop]; omega
  generalize (lb.getD 3 0).toNat = kq at *
  generalize numW lb = nq at *
  have HNE : Hid (w.heap.size ≠ w4.heap.size) := by have := HX4.out.lt; rw [Hid]; omega
  have HQB : Hid (w.heap.size ≤ w4.heap.size) := HB4.out.size
  obtain ⟨w5, hw5⟩ : ∃ w5, w4.alloc (.cells (pageV kq nq (.slice A4 n4 c4)) 28) = w5 := ⟨_, rfl⟩
  have HXQ5 : Hid (Box w5 w4.heap.size kq nq (.slice A4 n4 c4)) := hw5 ▸ Box.new w4 kq nq _
  have HXS5 : Hid (Box w5 w.heap.size k n (.slice A m c)) := hw5 ▸ HX4.out.below (below_new w4 _)
  have HBS5 : Hid (Below w.heap.size w w5) := hw5 ▸ HB4.out.alloc HB4.out.size _
  have HO5 : Hid (Byt w5 (.slice A4 n4 c4) (lb.drop 16)) := hw5 ▸ HO4.out.alloc _
  have HW5 := Lib.hid hw5
  unfold pageV at HW5 ⊢
  clear hw5 hb4 hown4 ho hx3
  go_wp2_with fail
  rw [HW5.out]
  have hbo := bytes_ok _ kq nq _ _ HO5.out HX3.out.1 HX3.out.2 HL16.out HNW.out
  rw [HPG.out] at hbo
  refine hbo.mono ?_
  clear hbo
  rintro e wS ⟨v5, rfl, hown5, hb5⟩
  have HXQ := Lib.hid (HXQ5.out.below hb5)
  have HXS := Lib.hid (HXS5.out.below hb5)
  have HBS := Lib.hid (HBS5.out.trans (hb5.mono HBS5.out.size))
  have T1 := text_of hown5.byt
  have T2 := text_of (HV2.out.below HBS.out)
  obtain ⟨A5, n5, c5, rfl, N5, hnc5, hcm5⟩ := hown5.byt.form
  generalize (⟨lb.toArray⟩ : ByteArray) = sb at *
  obtain ⟨d0, d1, d2⟩ := HXS.out.cells
  have HWS : Hid (wS = wS) := rfl
  clear hown5 hb5
  go_wp2_with fail
  clear d0 d1 d2
  by_cases hp : (1 ≤ k ∧ k ≤ 7) ∧ l.length ≤ 4080
  · obtain ⟨kk, rfl⟩ : ∃ kk : Nat, k = (kk : Int) := ⟨k.toNat, by omega⟩
    obtain ⟨⟨hp1, hp7⟩, hpl⟩ := hp
    have HP1 : Hid (1 ≤ kk) := by rw [Hid]; omega
    have HP7 : Hid (kk ≤ 7) := by rw [Hid]; omega
    have HPL := Lib.hid hpl
    have HKB : Hid (kindB (pageB kk n l) = kk) := by rw [Hid, kindB_ok (pageB_ok HP1.out HP7.out hpl), pageB_kind kk n l (by omega)]
    refine (bytes_ok _ kk n _ l (HV.out.below HBS.out) HP1.out HP7.out hpl HN.out).mono ?_
    rintro e w6 ⟨v6, rfl, hown6, hb6⟩
    have HX6 := Lib.hid (HXS.out.below hb6)
    have HXQ6 := Lib.hid (HXQ.out.below hb6)
    have HB6 := Lib.hid (HBS.out.trans (hb6.mono HBS.out.size))
    have hlen6 : (pageB kk n l).length = 4096 := pageB_len hpl
    obtain ⟨g, cg, rfl, hg1, hg2, hc1, hc2⟩ := hown6.at (by omega)
    have HG : Hid (w.heap.size ≤ g) := by have := HBS.out.size; rw [Hid]; omega
    rw [hlen6] at hown6 hc1 ⊢
    have HO6 := Lib.hid hown6
    have HLEN := Lib.hid hlen6
    clear hown6 hb6 hlen6 hg1 hg2 hp1 hp7 hpl
    go_wp2_with fail
    refine (kitown_any _ _ _ HO6.out.byt (by have := HLEN.out; omega)).mono ?_
    rintro e w7 ⟨v7, rfl, hown7, hb7⟩
    have HX7 := Lib.hid (HX6.out.below hb7)
    have HXQ7 := Lib.hid (HXQ6.out.below hb7)
    have HB7 := Lib.hid (HB6.out.trans (hb7.mono HB6.out.size))
    have HO7 := Lib.hid (Own.keep HO6.out hb7)
    have HR7 := Lib.hid hown7.byt
    obtain ⟨A7, n7, c7, rfl, N7, hnc7, hcm7⟩ := hown7.byt.form
    clear hown7 hb7
    go_wp2_with fail
    refine (read_page _ _ kk n l HR7.out HP1.out HP7.out HPL.out HN.out).mono ?_
    rintro e w8 ⟨v8, rfl, hown8, hb8⟩
    have HX8 := Lib.hid (HX7.out.below hb8)
    have HXQ8 := Lib.hid (HXQ7.out.below hb8)
    have HB8 := Lib.hid (HB7.out.trans (hb8.mono HB7.out.size))
    have HO8 := Lib.hid (Own.keep HO7.out hb8)
    have HR8 := Lib.hid hown8
    obtain ⟨A8, n8, c8, rfl, N8, hnc8, hcm8⟩ := hown8.byt.form
    obtain ⟨d0, d1, d2⟩ := HXQ8.out.cells
    have f0 := HXQ8.out.frozen 0
    have f1 := HXQ8.out.frozen 1
    have f2 := HXQ8.out.frozen 2
    clear hown8 hb8
    unfold pageV
    go_wp2_with fail
    have HXQ9 := Lib.hid (HXQ8.out.set kk n (.slice A8 n8 c8))
    have HX9 := Lib.hid (HX8.out.set3 HXQ8.out HNE.out (.int .i64 kk) (.int .u32 n) (.slice A8 n8 c8))
    have HB9 := Lib.hid (bel_set3 HB8.out HQB.out (.int .i64 kk) (.int .u32 n) (.slice A8 n8 c8))
    have HO9 := Lib.hid (Own.set3 HXQ8.out (.int .i64 kk) (.int .u32 n) (.slice A8 n8 c8) HO8.out)
    have HQ9 := Lib.hid (Own.set3 HXQ8.out (.int .i64 kk) (.int .u32 n) (.slice A8 n8 c8) HR8.out)
    generalize ((w8.setCell ⟨w4.heap.size, 0, none⟩ (.int .i64 kk)).setCell ⟨w4.heap.size, 1, none⟩ (.int .u32 n)).setCell ⟨w4.heap.size, 2, none⟩ (.slice A8 n8 c8) = W9 at *
    have HXd : Hid (Box W9.drew w.heap.size kk n (.slice A m c)) := HX9.out
    have HXQd : Hid (Box W9.drew w4.heap.size kk n (.slice A8 n8 c8)) := HXQ9.out
    have HBd : Hid (Below w.heap.size w W9.drew) := HB9.out.drew
    have HOd : Hid (Own W9.drew _ 5 (.slice (some ⟨g, 0, none⟩) 4096 cg) (pageB kk n l)) := HO9.out
    have HQd : Hid (Byt W9.drew (.slice A8 n8 c8) (padB l)) := HQ9.out.byt
    clear d0 d1 d2 f0 f1 f2 HX9 HXQ9 HB9 HO9 HQ9
    refine wp_region_R (R := fun x y => Below x.heap.size x y) (by kernel_rfl) (fun _ => Below.refl _ _) (fun h k => h.trans (k.mono h.size)) (by kernel_rfl) (fun d v c a w h => by cases d <;> exact h)
      [(0, false), (1, false), (2, false), (3, false), (4, false), (5, true), (6, false), (7, false), (8, false), (9, false), (11, false), (12, false), (10, true), (13, false), (14, false), (15, false), (16, false), (17, false), (18, false), (19, false)] rfl (by kernel_rfl) (by kernel_rfl) ?_
    simp only [sel, List.getElem?_toArray, List.getElem?_cons_succ, List.getElem?_cons_zero]
    generalize W9.drew = wd at *
    iterate 3 (refine sch_take ?_ rfl ?_ ?_; rotate_left; (focus (intro u hu; go_simp <;> rfl)); simp only [Act.put, List.setIfInBounds_toArray, List.set_cons_zero, List.set_cons_succ])
    (refine sch_take ?_ rfl ?_ ?_; rotate_left; (focus (intro u hu; have cc := (HXd.out.below hu).cells; obtain ⟨c0, c1, c2⟩ := cc; clear hu; go_simp <;> rfl)); simp only [Act.put, List.setIfInBounds_toArray, List.set_cons_zero, List.set_cons_succ])
    (refine sch_take ?_ rfl ?_ ?_; rotate_left; (focus (intro u hu; have cc := (HXQd.out.below hu).cells; obtain ⟨c0, c1, c2⟩ := cc; clear hu; go_simp <;> rfl)); simp only [Act.put, List.setIfInBounds_toArray, List.set_cons_zero, List.set_cons_succ])
    refine sch_call rfl ?_
    intro K hK
    go_simp
    refine (same_any _ (kk : Int) (n : Int) (kk : Int) (n : Int) _ _ l (padB l) (HV.out.below HBd.out) HQd.out).mono ?_
    rw [padB_trim, show decide ((kk : Int) = (kk : Int) ∧ (n : Int) = (n : Int) ∧ trimR l = trimR l) = true from by simp]; rintro e w10 ⟨rfl, hb10⟩
    go_wp2_with fail
    refine hK _ _ hb10 ?_
    clear hK K
    have HXe := Lib.hid (HXd.out.below hb10)
    have HBe := Lib.hid (HBd.out.trans (hb10.mono HBd.out.size))
    have HOe := Lib.hid (Own.keep HOd.out hb10)
    clear hb10
    iterate 5 (refine sch_take ?_ rfl ?_ ?_; rotate_left; (focus (intro u hu; go_simp <;> rfl)); simp only [Act.put, List.setIfInBounds_toArray, List.set_cons_zero, List.set_cons_succ])
    (refine sch_take ?_ rfl ?_ ?_; rotate_left; (focus (intro u hu; have cc := (HXe.out.below hu).cells.1; clear hu; go_simp <;> rfl)); simp only [Act.put, List.setIfInBounds_toArray, List.set_cons_zero, List.set_cons_succ])
    refine sch_call rfl ?_
    intro K hK
    go_simp
    refine (kind_any _ _ (pageB kk n l) HOe.out.byt).mono ?_
    rw [HKB.out]; rintro e w11 ⟨rfl, hb11⟩
    go_wp2_with fail
    refine hK _ _ hb11 ?_
    clear hK K
    have HXf := Lib.hid (HXe.out.below hb11)
    have HBf := Lib.hid (HBe.out.trans (hb11.mono HBe.out.size))
    have HOf := Lib.hid (Own.keep HOe.out hb11)
    clear hb11
    iterate 7 (refine sch_take ?_ rfl ?_ ?_; rotate_left; (focus (intro u hu; go_simp <;> rfl)); simp only [Act.put, List.setIfInBounds_toArray, List.set_cons_zero, List.set_cons_succ])
    refine sch_nil ?_
    go_wp2_with fail
    refine (pick_any x 4096 _ (by omega) (by omega)).mono ?_
    rintro e w12 ⟨rfl, rfl⟩
    have hj1 := Int.emod_nonneg x (show (4096 : Int) ≠ 0 by omega)
    have hj2 := Int.emod_lt_of_pos x (show (0 : Int) < 4096 by omega)
    obtain ⟨j, hj⟩ : ∃ j : Nat, x % 4096 = (j : Int) := ⟨(x % 4096).toNat, by omega⟩
    rw [hj] at hj1 hj2 ⊢
    have HJ : Hid (j < 4096) := by rw [Hid]; omega
    have hcell := own_cell HOf.out (j := j) (by have := HLEN.out; have := HJ.out; omega)
    have hfr := own_frozen HOf.out HLEN.out j
    have EX := byte_xor ((pageB kk n l).getD j 0) y
    have HS := Lib.hid (own_set HOf.out HLEN.out j ((pageB kk n l).getD j 0 ^^^ y))
    have HBg := Lib.hid (HBf.out.setCell (p := ⟨g, j, none⟩) HG.out (.int .u8 (((pageB kk n l).getD j 0 ^^^ y).toNat : Int)))
    have HOK := Lib.hid (pageB_ok (n := n) HP1.out HP7.out HPL.out)
    have HTN : Hid (y = 0 ∧ (pageB kk n l).set j ((pageB kk n l).getD j 0 ^^^ y) = pageB kk n l ∨ y ≠ 0 ∧ ¬ okB ((pageB kk n l).set j ((pageB kk n l).getD j 0 ^^^ y))) := by
      by_cases hy : y = 0
      · exact .inl ⟨hy, by rw [hy, xor0, set_same]⟩
      · exact .inr ⟨hy, okB_turned HOK.out HJ.out (xor_ne hy)⟩
    clear hj
    generalize (pageB kk n l).getD j 0 ^^^ y = z at *
    generalize (pageB kk n l).getD j 0 = z0 at *
    go_wp2_with fail
    rcases HTN.out with ⟨hy, hset⟩ | ⟨hy, hset⟩
    · rw [hset] at HS
      subst hy
      refine (read_page _ _ kk n l HS.out.byt HP1.out HP7.out HPL.out HN.out).mono ?_
      rintro e w13 ⟨v13, rfl, hown13, hb13⟩
      unfold pageV
      go_wp2_with fail
      go_ret
      exact ⟨rfl, HBg.out.trans (hb13.mono HBg.out.size)⟩
    · refine (read_bad _ _ _ HS.out.byt hset).mono ?_
      rintro e w13 ⟨rfl, hb13⟩
      have hy0 : ((y.toNat : Int) == 0) = false := by
        have : y.toNat ≠ 0 := fun e => hy (UInt8.toNat_inj.1 e)
        simp; exact this
      unfold pageV
      go_wp2_with fail
      go_ret
      exact ⟨rfl, HBg.out.trans (hb13.mono HBg.out.size)⟩
  · have HPP := Lib.hid hp
    refine (bytes_bad _ k n _ l (HV.out.below HBS.out) hp).mono ?_
    rintro e w6 ⟨rfl, hb6⟩
    have HB6 := Lib.hid (HBS.out.trans (hb6.mono HBS.out.size))
    obtain ⟨d0, d1, d2⟩ := (HXS.out.below hb6).cells
    clear hb6 hp
    by_cases hk1 : k < 1
    · go_wp2_with fail
      go_ret
      exact ⟨rfl, HB6.out⟩
    · by_cases hk7 : 7 < k
      · go_wp2_with fail
        go_ret
        exact ⟨rfl, HB6.out⟩
      · have h48 : (4080 : Int) < (m : Int) := by have := HPP.out; have := N.out; omega
        go_wp2_with fail
        go_ret
        exact ⟨rfl, HB6.out⟩

theorem walk (w : World) (k : Int) (n : Nat) (vb : Value) (l : List UInt8) (v2 : Value) (lb : List UInt8) (x : Int) (y : UInt8) (hv : Byt w vb l) (hk : -9223372036854775808 ≤ k ∧ k ≤ 9223372036854775807) (hn : n < 4294967296) (hb : Byt w v2 lb) (_hx : -9223372036854775808 ≤ x ∧ x ≤ 9223372036854775807) :
    Calls Tryd.prog 6 #[.agg (pageV k (n : Int) vb), v2, .int .i64 x, .int .u8 (y.toNat : Int)] w fun e w' => e = .returned (.bool true) ∧ Below w.heap.size w w' := by
  by_cases h : 5000 < l.length ∨ 5000 < lb.length
  · exact walk_great w k n vb l v2 lb x y hv hb hk hn h
  · by_cases ho : okB lb
    · exact walk_ok w k n vb l v2 lb x y hv hb hk hn (by omega) (by omega) ho
    · exact walk_bad w k n vb l v2 lb x y hv hb hk hn (by omega) (by omega) ho

set_option maxRecDepth 100000 in
theorem lifted (os : Os) (started : os.Started) (H : Type) (enc : TypeId × Value → H) :
    ReturnsInHanded {} Tryd.checked os 6 .any (fun w args => (Rows.pageBackSpec.pre enc Tryd.prog Tryd.f6 Rows.pageBackRow.domain false w args ∧ laidMetH Tryd.prog Rows.pageBackRow.laid w) ∧ sizedMet enc Tryd.prog Tryd.f6 (OpenSpec.ofChange Rows.pageBackSpec) false w args) (Rows.pageBackSpec.post enc Tryd.prog Tryd.f6 false true false false) := by
  refine returnsInHanded_of_change_and (C := Tryd.checked) (X := fun w _ => laidMetH Tryd.prog Rows.pageBackRow.laid w) (fun _ _ _ hh h => h.of_heap hh) ownKnobs started (by kernel_rfl) Tryd.func6
    (ChangeSpec.witness_shaped (enc := enc) (C := Tryd.checked) (os := os) (X := fun w _ => laidMetH Tryd.prog Rows.pageBackRow.laid w) false (World.laidAll Tryd.prog os Rows.pageBackRow.laid) #[.agg (pageV 0 0 (.slice none 0 0)), .slice none 0 0, .int .i64 0, .int .u8 0] 8 (World.laidAll_os _ _ _)
      (World.shaped_of_ZipB (by kernel_rfl) (by kernel_rfl)) (by kernel_rfl) (by kernel_rfl) (by kernel_rfl)
      (by rw [MakeChecks.laidMetH_plain _ _ _ (by kernel_rfl)]; exact laidMet_laidAll _ (by kernel_rfl) (by kernel_rfl))) ?_
  intro W base args ds gs before hval0 hW hcnd _ _ _
  have hval : ∀ (j : Nat) t v, Tryd.f6.params[j]? = some t → args[j]? = some v → Value.okWide Tryd.prog W .any base t v := hval0
  have hW' := hW
  obtain ⟨p, q, hA0, hV, rfl, hfz, hnd⟩ := hW
  have hA : DataW.TrodAll enc Tryd.prog W 0 (fun _ => true) true Tryd.f6.params.toList args.toList ds p := hA0
  rw [Tryd.params6] at hA hval
  obtain ⟨v0, vs0, d0, ds0, p0, q0, hargs, rfl, rfl, h0, r0⟩ := trodAll_cons hA
  obtain ⟨v1, vs1, d1, ds1, p1, q1, rfl, rfl, rfl, h1, r1⟩ := trodAll_cons r0
  obtain ⟨v2, vs2, d2, ds2, p2, q2, rfl, rfl, rfl, h2, r2⟩ := trodAll_cons r1
  obtain ⟨v3, vs3, d3, ds3, p3, q3, rfl, rfl, rfl, h3, r3⟩ := trodAll_cons r2
  obtain ⟨rfl, rfl, rfl⟩ := trodAll_nil r3
  obtain rfl : args = #[v0, v1, v2, v3] := by cases args; simp_all
  obtain ⟨rfl, rfl⟩ := trodVars_none hV
  have k0 := h0
  have lt0 : ∀ x ∈ p0, x.block < W.heap.size := by obtain ⟨m, hm⟩ := k0; exact DataW.trod_lt m _ _ _ hm
  obtain ⟨kd0, nm0, vb0, bd0, rfl, b0, bk0, bn0⟩ := open_page (hval 0 28 v0 rfl rfl) h0
  have k1 := h1
  have lt1 : ∀ x ∈ p1, x.block < W.heap.size := by obtain ⟨m, hm⟩ := k1; exact DataW.trod_lt m _ _ _ hm
  obtain ⟨l1, b1⟩ := open_bytes (hval 1 22 v1 rfl rfl) h1
  obtain ⟨a2, rfl, rfl, rfl, w2⟩ := open_int Tryd.underlying3 (hval 2 3 v2 rfl rfl) h2
  have b2 := open_i64 w2
  obtain ⟨a3, rfl, rfl, rfl, w3⟩ := open_int Tryd.underlying5 (hval 3 5 v3 rfl rfl) h3
  obtain ⟨n3, rfl⟩ := open_u8 w3
  clear hA0 hval0
  refine (walk W kd0 nm0 vb0 bd0 v1 l1 a2 n3 b0 bk0 bn0 b1 b2).mono fun e W' ⟨he, bel⟩ => ?_
  subst he
  exact ⟨_, rfl, _, _, _, [], _, [], hW', trodAll_mk1 (shut_bool Tryd.underlying4 _), (trodAll_cons_mk (Below.trod laidOuts (by kernel_rfl) (of_decide_eq_true (by kernel_rfl)) k0 bel lt0) (trodAll_cons_mk (Below.trod laidOuts (by kernel_rfl) (of_decide_eq_true (by kernel_rfl)) k1 bel lt1) (trodAll_cons_mk (shut_int Tryd.underlying3 w2) (trodAll_cons_mk (shut_int Tryd.underlying5 w3) trodAll_mk0)))), rfl, bel.frame _, fun h => by cases h⟩

theorem over : Rows.pageBackRow.holds Tryd.pinned (OpenSpec.ofChange Rows.pageBackSpec) :=
  OpenClaim.holds_of_wide 6 Tryd.f6 rfl rfl rfl rfl rfl rfl rfl ⟨rfl, rfl, rfl, rfl, rfl⟩ rfl rfl rfl rfl rfl (by kernel_rfl) Tryd.func6 (by kernel_rfl)
    (of_decide_eq_true (by kernel_rfl)) (by unfold Func.isWrapper; first | (rw [if_pos (by decide +kernel)]; kernel_rfl) | (rw [if_neg (by decide +kernel)]; exact ⟨rfl, rfl⟩))
    (fun os started H enc _ => lifted os started H enc)

theorem proved : Rows.PageBackCardSaid :=
  Claim7.holds_tied_plain_at .later [] [.data, .pinned] true Rows.pageBackCard.stood.harness false over (fun _ h => by cases h) (by kernel_rfl) (fun _ h => by cases h) pageBack_row_tie rfl ⟨rfl, rfl⟩ (by kernel_rfl) rfl
    (fun f fn hf hfn => by
      obtain rfl : f = 6 := Option.some.inj ((show Tryd.prog.funcNamed "tallyman/tallymanlaw05.PageBack" = some 6 by kernel_rfl).symm.trans hf) |>.symm
      obtain rfl : fn = Tryd.f6 := (Option.some.inj (Tryd.func6.symm.trans hfn)).symm
      exact ⟨by kernel_rfl, fun j t ht => by
        rw [Tryd.params6] at ht
        have hm : t ∈ [28, 22, 3, 5] := by simpa using Array.mem_of_getElem? ht
        have hall : ([28, 22, 3, 5].all fun u => !Tryd.prog.wantsStandIn u) = true := by kernel_rfl
        exact (show Tryd.prog.wantsStandIn t = false by simpa using List.all_eq_true.1 hall t hm)⟩)
    (by kernel_rfl)
#print axioms proved
end Go.Proofs.YtagchbpofoidmaaDoor.pageBack
