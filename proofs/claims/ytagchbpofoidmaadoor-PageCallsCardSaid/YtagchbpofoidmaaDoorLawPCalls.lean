/-
  The statement PageCalls: pages are told and read as the document says. Conditions: none.
-/
import Derived.Test.YtagchbpofoidmaaDoorPgH
import Derived.Test.YtagchbpofoidmaaDoorPgM
namespace Go.Proofs.YtagchbpofoidmaaDoor.pageCalls
open Go.ChangeShapes Go.WideShapes Go.ChangeAt Go.RowKit Go.Maps
set_option maxRecDepth 100000
set_option linter.unusedVariables false

/-- Two rows of bytes, side by side. -/
def Two (w0 wr : World) (rb : Nat) (v1 v2 : Value) (l1 l2 : List UInt8) (i : Value) : Prop :=
  ∃ k : Nat, k ≤ 2 ∧ i = .int .i64 (k : Int) ∧ Rowz wr (.slice (some ⟨rb, 0, none⟩) 2 2) [v1, v2] ∧ Byts wr [v1, v2] [l1, l2] ∧ Below w0.heap.size w0 wr
theorem byts_two {w : World} {a b : Value} {l m : List UInt8} (h1 : Byt w a l) (h2 : Byt w b m) : Byts w [a, b] [l, m] := (((Byts.nil w).snoc h1).snoc h2)
set_option maxRecDepth 100000 in
set_option maxHeartbeats 4000000 in
theorem walk_great (w : World) (k : Int) (n : Nat) (vb : Value) (l : List UInt8) (k2 : Int) (n2 : Nat) (vb2 : Value) (l2 : List UInt8) (v3 : Value) (lb : List UInt8) (x : Int) (y : UInt8) (hv : Byt w vb l) (hv2 : Byt w vb2 l2) (hv3 : Byt w v3 lb) (hn : n < 4294967296) (h : 5000 < l.length ∨ 5000 < l2.length ∨ 5000 < lb.length) :
    Calls Tryd.prog 4 #[.agg (pageV k (n : Int) vb), .agg (pageV k2 (n2 : Int) vb2), v3, .int .i64 x, .int .u8 (y.toNat : Int)] w fun e w' => e = .returned (.bool true) ∧ Below w.heap.size w w' := by
  obtain ⟨A, m, c, rfl, N, hnc, hcm⟩ := hv.form
  obtain ⟨A2, m2, c2, rfl, N2, hnc2, hcm2⟩ := hv2.form
  obtain ⟨A3, m3, c3, rfl, N3, hnc3, hcm3⟩ := hv3.form
  obtain ⟨wa, hwa⟩ : ∃ wa, w.alloc (.cells (pageV k n (.slice A m c)) 28) = wa := ⟨_, rfl⟩
  obtain ⟨w0, hw0⟩ : ∃ w0, wa.alloc (.cells (pageV k2 n2 (.slice A2 m2 c2)) 28) = w0 := ⟨_, rfl⟩
  have hba : Below w.heap.size w wa := hwa ▸ below_new w _
  have hb0 : Below wa.heap.size wa w0 := hw0 ▸ below_new wa _
  have HX0 : Hid (Box w0 w.heap.size k n (.slice A m c)) := (hwa ▸ Box.new w k n _ : Box wa _ _ _ _).below hb0
  have HY0 : Hid (Box w0 (w.heap.size + 1) k2 n2 (.slice A2 m2 c2)) := by
    have : Box w0 wa.heap.size k2 n2 (.slice A2 m2 c2) := hw0 ▸ Box.new wa k2 n2 _
    rw [show wa.heap.size = w.heap.size + 1 by rw [← hwa]; simp] at this
    exact this
  have HB0 : Hid (Below w.heap.size w w0) := hba.trans (hb0.mono hba.size)
  have HW0 : Hid ((w.alloc (.cells (pageV k n (.slice A m c)) 28)).alloc (.cells (pageV k2 n2 (.slice A2 m2 c2)) 28) = w0) := by rw [Hid, hwa, hw0]
  have HV := Lib.hid hv
  have HV2 := Lib.hid hv2
  have HV3 := Lib.hid hv3
  have HN := Lib.hid hn
  unfold pageV at HW0 ⊢
  clear hv hv2 hv3 hw0 hwa hba hb0
  by_cases h1 : (5000 : Int) < (m : Int)
  · clear h
    go_enter Tryd.func4, Tryd.ntmps4
    go_wp2_with fail
    rw [HW0.out]
    refine (lives5_any _).mono ?_
    rintro e w1 ⟨rfl, hb1⟩
    have HX1 := Lib.hid (HX0.out.below hb1)
    have HY1 := Lib.hid (HY0.out.below hb1)
    have HB1 := Lib.hid (HB0.out.trans (hb1.mono HB0.out.size))
    obtain ⟨d0, d1, d2⟩ := HX1.out.cells
    obtain ⟨e0, e1, e2⟩ := HY1.out.cells
    clear hb1
    go_wp2_with fail
    go_ret
    exact ⟨rfl, HB1.out⟩
  · by_cases h2 : (5000 : Int) < (m2 : Int)
    · clear h
      go_enter Tryd.func4, Tryd.ntmps4
      go_wp2_with fail
      rw [HW0.out]
      refine (lives5_any _).mono ?_
      rintro e w1 ⟨rfl, hb1⟩
      have HX1 := Lib.hid (HX0.out.below hb1)
      have HY1 := Lib.hid (HY0.out.below hb1)
      have HB1 := Lib.hid (HB0.out.trans (hb1.mono HB0.out.size))
      obtain ⟨d0, d1, d2⟩ := HX1.out.cells
      obtain ⟨e0, e1, e2⟩ := HY1.out.cells
      clear hb1
      go_wp2_with fail
      go_ret
      exact ⟨rfl, HB1.out⟩
    · have h3 : (5000 : Int) < (m3 : Int) := by have := N.out; have := N2.out; have := N3.out; omega
      clear h
      go_enter Tryd.func4, Tryd.ntmps4
      go_wp2_with fail
      rw [HW0.out]
      refine (lives5_any _).mono ?_
      rintro e w1 ⟨rfl, hb1⟩
      have HX1 := Lib.hid (HX0.out.below hb1)
      have HY1 := Lib.hid (HY0.out.below hb1)
      have HB1 := Lib.hid (HB0.out.trans (hb1.mono HB0.out.size))
      obtain ⟨d0, d1, d2⟩ := HX1.out.cells
      obtain ⟨e0, e1, e2⟩ := HY1.out.cells
      clear hb1
      go_wp2_with fail
      go_ret
      exact ⟨rfl, HB1.out⟩
set_option maxRecDepth 100000 in
set_option maxHeartbeats 4000000 in
theorem walk_bad (w : World) (k : Int) (n : Nat) (vb : Value) (l : List UInt8) (k2 : Int) (n2 : Nat) (vb2 : Value) (l2 : List UInt8) (v3 : Value) (lb : List UInt8) (x : Int) (y : UInt8) (hv : Byt w vb l) (hv2 : Byt w vb2 l2) (hv3 : Byt w v3 lb) (hn : n < 4294967296) (hl : l.length ≤ 5000) (hl2 : l2.length ≤ 5000) (hl3 : lb.length ≤ 5000) (hp : ¬ ((1 ≤ k ∧ k ≤ 7) ∧ l.length ≤ 4080)) :
    Calls Tryd.prog 4 #[.agg (pageV k (n : Int) vb), .agg (pageV k2 (n2 : Int) vb2), v3, .int .i64 x, .int .u8 (y.toNat : Int)] w fun e w' => e = .returned (.bool true) ∧ Below w.heap.size w w' := by
  obtain ⟨A, m, c, rfl, N, hnc, hcm⟩ := hv.form
  obtain ⟨A2, m2, c2, rfl, N2, hnc2, hcm2⟩ := hv2.form
  obtain ⟨A3, m3, c3, rfl, N3, hnc3, hcm3⟩ := hv3.form
  obtain ⟨wa, hwa⟩ : ∃ wa, w.alloc (.cells (pageV k n (.slice A m c)) 28) = wa := ⟨_, rfl⟩
  obtain ⟨w0, hw0⟩ : ∃ w0, wa.alloc (.cells (pageV k2 n2 (.slice A2 m2 c2)) 28) = w0 := ⟨_, rfl⟩
  have hba : Below w.heap.size w wa := hwa ▸ below_new w _
  have hb0 : Below wa.heap.size wa w0 := hw0 ▸ below_new wa _
  have HX0 : Hid (Box w0 w.heap.size k n (.slice A m c)) := (hwa ▸ Box.new w k n _ : Box wa _ _ _ _).below hb0
  have HY0 : Hid (Box w0 (w.heap.size + 1) k2 n2 (.slice A2 m2 c2)) := by
    have : Box w0 wa.heap.size k2 n2 (.slice A2 m2 c2) := hw0 ▸ Box.new wa k2 n2 _
    rw [show wa.heap.size = w.heap.size + 1 by rw [← hwa]; simp] at this
    exact this
  have HB0 : Hid (Below w.heap.size w w0) := hba.trans (hb0.mono hba.size)
  have HW0 : Hid ((w.alloc (.cells (pageV k n (.slice A m c)) 28)).alloc (.cells (pageV k2 n2 (.slice A2 m2 c2)) 28) = w0) := by rw [Hid, hwa, hw0]
  have HV := Lib.hid hv
  have HV2 := Lib.hid hv2
  have HV3 := Lib.hid hv3
  have HN := Lib.hid hn
  unfold pageV at HW0 ⊢
  clear hv hv2 hv3 hw0 hwa hba hb0
  have h1 : ¬ (5000 : Int) < (m : Int) := by have := N.out; omega
  have h2 : ¬ (5000 : Int) < (m2 : Int) := by have := N2.out; omega
  have h3 : ¬ (5000 : Int) < (m3 : Int) := by have := N3.out; omega
  have HL := Lib.hid hl
  have HL2 := Lib.hid hl2
  have HL3 := Lib.hid hl3
  clear hl hl2 hl3
  go_enter Tryd.func4, Tryd.ntmps4
  go_wp2_with fail
  rw [HW0.out]
  refine (lives5_any _).mono ?_
  rintro e w1 ⟨rfl, hb1⟩
  have HX1 := Lib.hid (HX0.out.below hb1)
  have HY1 := Lib.hid (HY0.out.below hb1)
  have HB1 := Lib.hid (HB0.out.trans (hb1.mono HB0.out.size))
  obtain ⟨d0, d1, d2⟩ := HX1.out.cells
  obtain ⟨e0, e1, e2⟩ := HY1.out.cells
  clear hb1
  go_wp2_with fail
  clear d0 d1 d2 e0 e1 e2
  obtain ⟨d0, d1, d2⟩ := HX1.out.cells
  refine (bytes_bad _ k n _ l (HV.out.below HB1.out) hp).mono ?_
  rintro e w2 ⟨rfl, hb2⟩
  have HX2 := Lib.hid (HX1.out.below hb2)
  have HY2 := Lib.hid (HY1.out.below hb2)
  have HB2 := Lib.hid (HB1.out.trans (hb2.mono HB1.out.size))
  clear d0 d1 d2
  obtain ⟨d0, d1, d2⟩ := HX2.out.cells
  clear hb2
  go_wp2_with fail
  refine (r5bytes_bad _ k n _ l (HV.out.below HB2.out) hp).mono ?_
  rintro e w3 ⟨rfl, hb3⟩
  have HXd : Hid (Box w3.drew w.heap.size k n (.slice A m c)) := HX2.out.below hb3.drew
  have HYd : Hid (Box w3.drew (w.heap.size + 1) k2 n2 (.slice A2 m2 c2)) := HY2.out.below hb3.drew
  have HBd : Hid (Below w.heap.size w w3.drew) := (HB2.out.trans (hb3.mono HB2.out.size)).drew
  have HAd : Hid (Byt w3.drew (.slice none 0 0) []) := Byt.nil _
  have HCB : Hid (Byt w3.drew (.slice none 0 0) []) := Byt.nil _
  have HCd := HCB
  obtain ⟨bq, HE⟩ : ∃ bq, Hid (decide (k = k2 ∧ (n : Int) = (n2 : Int) ∧ trimR l = trimR l2) = bq) := ⟨_, rfl⟩
  have hkb : ∃ kb, kindB lb = kb := ⟨_, rfl⟩
  clear d0 d1 d2 hb3
  go_wp2_with fail
  refine wp_region_R (R := fun x y => Below x.heap.size x y) (by kernel_rfl) (fun _ => Below.refl _ _) (fun h k => h.trans (k.mono h.size)) (by kernel_rfl) (fun d v c a w h => by cases d <;> exact h)
    [(0, false), (1, false), (2, false), (3, false), (4, false), (5, false), (6, false), (7, false), (8, false), (9, false), (10, false), (11, false), (12, false), (14, false), (15, false), (13, true), (16, true), (17, false), (18, false), (19, false), (20, false), (22, false), (21, true), (23, true), (24, false), (25, false)] rfl (by kernel_rfl) (by kernel_rfl) ?_
  simp only [sel, List.getElem?_toArray, List.getElem?_cons_succ, List.getElem?_cons_zero]
  generalize w3.drew = wd at *
  (refine sch_take ?_ rfl ?_ ?_; rotate_left; (focus (intro u hu; go_simp <;> rfl)); simp only [Act.put, List.setIfInBounds_toArray, List.set_cons_zero, List.set_cons_succ])
  (refine sch_take ?_ rfl ?_ ?_; rotate_left; (focus (intro u hu; have tt := text_of (HAd.out.below hu); clear hu; go_simp <;> rfl)); simp only [Act.put, List.setIfInBounds_toArray, List.set_cons_zero, List.set_cons_succ])
  (refine sch_take ?_ rfl ?_ ?_; rotate_left; (focus (intro u hu; go_simp <;> rfl)); simp only [Act.put, List.setIfInBounds_toArray, List.set_cons_zero, List.set_cons_succ])
  (refine sch_take ?_ rfl ?_ ?_; rotate_left; (focus (intro u hu; have tt := text_of (HCB.out.below hu); clear hu; go_simp <;> rfl)); simp only [Act.put, List.setIfInBounds_toArray, List.set_cons_zero, List.set_cons_succ])
  iterate 7 (refine sch_take ?_ rfl ?_ ?_; rotate_left; (focus (intro u hu; go_simp <;> rfl)); simp only [Act.put, List.setIfInBounds_toArray, List.set_cons_zero, List.set_cons_succ])
  (refine sch_take ?_ rfl ?_ ?_; rotate_left; (focus (intro u hu; have cc := (HXd.out.below hu).cells; obtain ⟨c0, c1, c2⟩ := cc; clear hu; go_simp <;> rfl)); simp only [Act.put, List.setIfInBounds_toArray, List.set_cons_zero, List.set_cons_succ])
  (refine sch_take ?_ rfl ?_ ?_; rotate_left; (focus (intro u hu; have cc := (HYd.out.below hu).cells; obtain ⟨c0, c1, c2⟩ := cc; clear hu; go_simp <;> rfl)); simp only [Act.put, List.setIfInBounds_toArray, List.set_cons_zero, List.set_cons_succ])
  (refine sch_take ?_ rfl ?_ ?_; rotate_left; (focus (intro u hu; have cc := (HXd.out.below hu).cells; obtain ⟨c0, c1, c2⟩ := cc; clear hu; go_simp <;> rfl)); simp only [Act.put, List.setIfInBounds_toArray, List.set_cons_zero, List.set_cons_succ])
  (refine sch_take ?_ rfl ?_ ?_; rotate_left; (focus (intro u hu; have cc := (HYd.out.below hu).cells; obtain ⟨c0, c1, c2⟩ := cc; clear hu; go_simp <;> rfl)); simp only [Act.put, List.setIfInBounds_toArray, List.set_cons_zero, List.set_cons_succ])
  refine sch_call rfl ?_
  intro K hK
  go_simp
  refine (same_any _ k (n : Int) k2 (n2 : Int) _ _ l l2 (HV.out.below HBd.out) (HV2.out.below HBd.out)).mono ?_
  rintro e w4 ⟨rfl, hb4⟩; rw [HE.out]
  go_wp2_with fail
  refine hK _ _ hb4 ?_
  clear hK K
  have HXe := Lib.hid (HXd.out.below hb4)
  have HYe := Lib.hid (HYd.out.below hb4)
  have HBe := Lib.hid (HBd.out.trans (hb4.mono HBd.out.size))
  have HCe := Lib.hid (HCd.out.below hb4)
  clear hb4
  refine sch_call rfl ?_
  intro K hK
  go_simp
  refine (r5same_any _ k (n : Int) k2 (n2 : Int) _ _ l l2 (HV.out.below HBe.out) (HV2.out.below HBe.out)).mono ?_
  rintro e w5 ⟨rfl, hb5⟩; rw [HE.out]
  go_wp2_with fail
  refine hK _ _ hb5 ?_
  clear hK K
  have HBf := Lib.hid (HBe.out.trans (hb5.mono HBe.out.size))
  have HCf := Lib.hid (HCe.out.below hb5)
  clear hb5
  iterate 5 (refine sch_take ?_ rfl ?_ ?_; rotate_left; (focus (intro u hu; go_simp <;> rfl)); simp only [Act.put, List.setIfInBounds_toArray, List.set_cons_zero, List.set_cons_succ])
  refine sch_call rfl ?_
  intro K hK
  go_simp
  refine (kind_any _ _ lb (HV3.out.below HBf.out)).mono ?_
  rintro e w6 ⟨rfl, hb6⟩
  go_wp2_with fail
  refine hK _ _ hb6 ?_
  clear hK K
  have HBg := Lib.hid (HBf.out.trans (hb6.mono HBf.out.size))
  have HCg := Lib.hid (HCf.out.below hb6)
  clear hb6
  refine sch_call rfl ?_
  intro K hK
  go_simp
  refine (r5kind_any _ _ lb (HV3.out.below HBg.out)).mono ?_
  rintro e w7 ⟨rfl, hb7⟩
  go_wp2_with fail
  refine hK _ _ hb7 ?_
  clear hK K
  have HBh := Lib.hid (HBg.out.trans (hb7.mono HBg.out.size))
  have HCh := Lib.hid (HCg.out.below hb7)
  clear hb7
  iterate 2 (refine sch_take ?_ rfl ?_ ?_; rotate_left; (focus (intro u hu; go_simp <;> rfl)); simp only [Act.put, List.setIfInBounds_toArray, List.set_cons_zero, List.set_cons_succ])
  refine sch_nil ?_
  obtain ⟨ly, hly⟩ : ∃ ly : List UInt8, ly = [] := ⟨_, rfl⟩
  have HLY : Hid (ly.length ≤ 5000) := by rw [Hid, hly]; simp
  have hrow := Rowz.lit w7 [.slice A3 m3 c3, .slice none 0 0] 22 (0, 0) (by simp [maxLen])
  obtain ⟨rb, hrb⟩ : ∃ rb, w7.heap.size = rb := ⟨_, rfl⟩
  have HB8 := below_new w7 (.cells #[.slice A3 m3 c3, .slice none 0 0] 22)
  have HRW : Hid (Rowz (w7.alloc (.cells #[.slice A3 m3 c3, .slice none 0 0] 22)) (.slice (some ⟨rb, 0, none⟩) 2 2) [.slice A3 m3 c3, .slice none 0 0]) := hrb ▸ hrow
  have HBT : Hid (Byts (w7.alloc (.cells #[.slice A3 m3 c3, .slice none 0 0] 22)) [.slice A3 m3 c3, .slice none 0 0] [lb, ly]) := byts_two ((HV3.out.below HBh.out).alloc _) (hly ▸ Byt.nil _)
  have HBL0 : Hid (Below w.heap.size w (w7.alloc (.cells #[.slice A3 m3 c3, .slice none 0 0] 22))) := HBh.out.trans (HB8.mono HBh.out.size)
  clear hrow HB8 hly
  go_wp2_with fail
  generalize w7.alloc (.cells #[.slice A3 m3 c3, .slice none 0 0] 22) = w8 at *
  clear hrb
  go_loopw [90] (fun i wr => Two w wr rb (.slice A3 m3 c3) (.slice none 0 0) lb ly i) (fun i _ => 2 - (intOf i).toNat)
  case atStart => exact ⟨0, by omega, rfl, HRW.out, HBT.out, HBL0.out⟩
  case round =>
    obtain ⟨k9, hk9, rfl, hrz, hbz, hbl⟩ := hrel
    have HRZ := Lib.hid hrz
    have HBZ := Lib.hid hbz
    have HBL := Lib.hid hbl
    clear hrz hbz hbl
    by_cases hlt : k9 < 2
    · obtain ⟨b9, off9, e9, _, hc9⟩ := HRZ.out.at (k := k9) (by simp; omega)
      injection e9 with e9
      injection e9 with e9 e10
      subst e9 e10
      have hc := hc9 k9 (by simp; omega)
      have hz := HBZ.out.2 k9 (by simp; omega) (by simp; omega)
      rw [Nat.zero_add] at hc
      have HLZ : Hid (([lb, ly][k9]'(by simp; omega)).length ≤ 5000) := by
        rw [Hid]
        have : k9 = 0 ∨ k9 = 1 := by omega
        rcases this with rfl | rfl
        · exact HL3.out
        · exact HLY.out
      generalize ([.slice A3 m3 c3, (.slice none 0 0)] : List Value)[k9]'(by simp; omega) = z at *
      generalize ([lb, ly] : List (List UInt8))[k9]'(by simp; omega) = lz at *
      have HZ := Lib.hid hz
      obtain ⟨Az, nz0, cz, rfl, Nz, hncz, hcmz⟩ := hz.form
      clear hc9 hz
      go_wp2_with fail
      refine (kitown_any _ _ lz HZ.out (by have := HLZ.out; omega)).mono ?_
      rintro e w2 ⟨v2, rfl, hown2, hb2⟩
      have HO2 := Lib.hid hown2
      have HB2 := Lib.hid hb2
      have HZ2 := Lib.hid (HZ.out.below hb2)
      obtain ⟨A4, n4, c4, rfl, N4, hnc4, hcm4⟩ := hown2.byt.form
      clear hown2 hb2
      go_wp2_with fail
      by_cases ho : okB lz
      · have HR1 := Lib.hid (read_ok _ _ lz HO2.out.byt ho)
        have HR2 := Lib.hid (fun W (h : Byt W (.slice Az nz0 cz) lz) => r5read_ok _ _ lz h ho)
        unfold ReadE at HR1 HR2
        generalize (lz.getD 3 0).toNat = kz at *
        generalize numW lz = nz at *
        refine HR1.out.mono ?_
        rintro e w3 ⟨v3, rfl, hown3, hb3⟩
        have HM3 := Lib.hid hown3.byt
        obtain ⟨A5, n5, c5, rfl, N5, hnc5, hcm5⟩ := hown3.byt.form
        clear hown3
        obtain ⟨w4, hw4⟩ : ∃ w4, w3.alloc (.cells (pageV (kz : Int) (nz : Int) (.slice A5 n5 c5)) 28) = w4 := ⟨_, rfl⟩
        have hb4 : Below w3.heap.size w3 w4 := hw4 ▸ below_new w3 _
        have HBX4 : Hid (Box w4 w3.heap.size (kz : Int) (nz : Int) (.slice A5 n5 c5)) := hw4 ▸ Box.new w3 _ _ _
        have hR4 : Below w2.heap.size w2 w4 := hb3.trans (hb4.mono hb3.size)
        have HB4 := Lib.hid (HB2.out.trans (hR4.mono HB2.out.size))
        have HZ4 := Lib.hid (HZ2.out.below hR4)
        have HM4 := Lib.hid (HM3.out.below hb4)
        have HW4 := Lib.hid hw4
        unfold pageV at HW4 ⊢
        clear hb3 hb4 hR4 hw4
        go_wp2_with fail
        rw [HW4.out]
        refine (HR2.out _ HZ4.out).mono ?_
        rintro e w5 ⟨v6, rfl, hown5, hb5⟩
        have HM5 := Lib.hid hown5.byt
        obtain ⟨A7, n7, c7, rfl, N7, hnc7, hcm7⟩ := hown5.byt.form
        clear hown5
        obtain ⟨w6, hw6⟩ : ∃ w6, w5.alloc (.cells (pageV (kz : Int) (nz : Int) (.slice A7 n7 c7)) 28) = w6 := ⟨_, rfl⟩
        have hb6 : Below w5.heap.size w5 w6 := hw6 ▸ below_new w5 _
        have HBY6 : Hid (Box w6 w5.heap.size (kz : Int) (nz : Int) (.slice A7 n7 c7)) := hw6 ▸ Box.new w5 _ _ _
        have hR6 : Below w4.heap.size w4 w6 := hb5.trans (hb6.mono hb5.size)
        have HBX6 := Lib.hid (HBX4.out.below hR6)
        have HB6 := Lib.hid (HB4.out.trans (hR6.mono HB4.out.size))
        have HM6 := Lib.hid (HM4.out.below hR6)
        have HN6 := Lib.hid (HM5.out.below hb6)
        obtain ⟨d0, d1, d2⟩ := HBX6.out.cells
        obtain ⟨e0, e1, e2⟩ := HBY6.out.cells
        have HW6 := Lib.hid hw6
        rw [← hw6] at d0 d1 d2 e0 e1 e2
        unfold pageV at HW6 d0 d1 d2 e0 e1 e2 ⊢
        clear hb5 hb6 hR6 hw6
        go_wp2_with fail
        rw [HW6.out]
        refine (kitpage_any _ (kz : Int) (nz : Int) (kz : Int) (nz : Int) _ _ (lz.drop 16) (lz.drop 16) HM6.out HN6.out).mono ?_
        rw [show decide (((kz : Int) : Int) = (kz : Int) ∧ ((nz : Int) : Int) = (nz : Int) ∧ (lz.drop 16) = (lz.drop 16)) = true from by simp]
        rintro e w7 ⟨rfl, hb7⟩
        have HB7 := Lib.hid (HB6.out.trans (hb7.mono HB6.out.size))
        clear hb7 d0 d1 d2 e0 e1 e2
        go_wp2_with fail
        go_roundw
        case rel => exact ⟨k9 + 1, by omega, by go_num, HRZ.out.below HB7.out, HBZ.out.below HB7.out, HBL.out.trans (HB7.out.mono HBL.out.size)⟩
        case measure => simp [intOf]; omega
      · have HR1 := Lib.hid (read_bad _ _ lz HO2.out.byt ho)
        have HR2 := Lib.hid (fun W (h : Byt W (.slice Az nz0 cz) lz) => r5read_bad _ _ lz h ho)
        refine HR1.out.mono ?_
        rintro e w3 ⟨rfl, hb3⟩
        have HM3 := Lib.hid (Byt.nil w3)
        obtain ⟨w4, hw4⟩ : ∃ w4, w3.alloc (.cells (pageV 0 0 (.slice none 0 0)) 28) = w4 := ⟨_, rfl⟩
        have hb4 : Below w3.heap.size w3 w4 := hw4 ▸ below_new w3 _
        have HBX4 : Hid (Box w4 w3.heap.size 0 0 (.slice none 0 0)) := hw4 ▸ Box.new w3 _ _ _
        have hR4 : Below w2.heap.size w2 w4 := hb3.trans (hb4.mono hb3.size)
        have HB4 := Lib.hid (HB2.out.trans (hR4.mono HB2.out.size))
        have HZ4 := Lib.hid (HZ2.out.below hR4)
        have HM4 := Lib.hid (HM3.out.below hb4)
        have HW4 := Lib.hid hw4
        unfold pageV at HW4 ⊢
        clear hb3 hb4 hR4 hw4
        go_wp2_with fail
        rw [HW4.out]
        refine (HR2.out _ HZ4.out).mono ?_
        rintro e w5 ⟨rfl, hb5⟩
        have HM5 := Lib.hid (Byt.nil w5)
        obtain ⟨w6, hw6⟩ : ∃ w6, w5.alloc (.cells (pageV 0 0 (.slice none 0 0)) 28) = w6 := ⟨_, rfl⟩
        have hb6 : Below w5.heap.size w5 w6 := hw6 ▸ below_new w5 _
        have HBY6 : Hid (Box w6 w5.heap.size 0 0 (.slice none 0 0)) := hw6 ▸ Box.new w5 _ _ _
        have hR6 : Below w4.heap.size w4 w6 := hb5.trans (hb6.mono hb5.size)
        have HBX6 := Lib.hid (HBX4.out.below hR6)
        have HB6 := Lib.hid (HB4.out.trans (hR6.mono HB4.out.size))
        have HM6 := Lib.hid (HM4.out.below hR6)
        have HN6 := Lib.hid (HM5.out.below hb6)
        obtain ⟨d0, d1, d2⟩ := HBX6.out.cells
        obtain ⟨e0, e1, e2⟩ := HBY6.out.cells
        have HW6 := Lib.hid hw6
        rw [← hw6] at d0 d1 d2 e0 e1 e2
        unfold pageV at HW6 d0 d1 d2 e0 e1 e2 ⊢
        clear hb5 hb6 hR6 hw6
        go_wp2_with fail
        rw [HW6.out]
        refine (kitpage_any _ 0 0 0 0 _ _ [] [] HM6.out HN6.out).mono ?_
        rw [show decide ((0 : Int) = 0 ∧ (0 : Int) = 0 ∧ [] = []) = true from by simp]
        rintro e w7 ⟨rfl, hb7⟩
        have HB7 := Lib.hid (HB6.out.trans (hb7.mono HB6.out.size))
        clear hb7 d0 d1 d2 e0 e1 e2
        go_wp2_with fail
        go_roundw
        case rel => exact ⟨k9 + 1, by omega, by go_num, HRZ.out.below HB7.out, HBZ.out.below HB7.out, HBL.out.trans (HB7.out.mono HBL.out.size)⟩
        case measure => simp [intOf]; omega
    · obtain rfl : k9 = 2 := by omega
      go_wp2_with fail
      go_ret
      exact ⟨rfl, HBL.out⟩
set_option maxRecDepth 100000 in
set_option maxHeartbeats 4000000 in
theorem walk_ok (w : World) (k : Int) (n : Nat) (vb : Value) (l : List UInt8) (k2 : Int) (n2 : Nat) (vb2 : Value) (l2 : List UInt8) (v3 : Value) (lb : List UInt8) (x : Int) (y : UInt8) (hv : Byt w vb l) (hv2 : Byt w vb2 l2) (hv3 : Byt w v3 lb) (hn : n < 4294967296) (hl : l.length ≤ 5000) (hl2 : l2.length ≤ 5000) (hl3 : lb.length ≤ 5000) (hp : (1 ≤ k ∧ k ≤ 7) ∧ l.length ≤ 4080) :
    Calls Tryd.prog 4 #[.agg (pageV k (n : Int) vb), .agg (pageV k2 (n2 : Int) vb2), v3, .int .i64 x, .int .u8 (y.toNat : Int)] w fun e w' => e = .returned (.bool true) ∧ Below w.heap.size w w' := by
  obtain ⟨A, m, c, rfl, N, hnc, hcm⟩ := hv.form
  obtain ⟨A2, m2, c2, rfl, N2, hnc2, hcm2⟩ := hv2.form
  obtain ⟨A3, m3, c3, rfl, N3, hnc3, hcm3⟩ := hv3.form
  obtain ⟨wa, hwa⟩ : ∃ wa, w.alloc (.cells (pageV k n (.slice A m c)) 28) = wa := ⟨_, rfl⟩
  obtain ⟨w0, hw0⟩ : ∃ w0, wa.alloc (.cells (pageV k2 n2 (.slice A2 m2 c2)) 28) = w0 := ⟨_, rfl⟩
  have hba : Below w.heap.size w wa := hwa ▸ below_new w _
  have hb0 : Below wa.heap.size wa w0 := hw0 ▸ below_new wa _
  have HX0 : Hid (Box w0 w.heap.size k n (.slice A m c)) := (hwa ▸ Box.new w k n _ : Box wa _ _ _ _).below hb0
  have HY0 : Hid (Box w0 (w.heap.size + 1) k2 n2 (.slice A2 m2 c2)) := by
    have : Box w0 wa.heap.size k2 n2 (.slice A2 m2 c2) := hw0 ▸ Box.new wa k2 n2 _
    rw [show wa.heap.size = w.heap.size + 1 by rw [← hwa]; simp] at this
    exact this
  have HB0 : Hid (Below w.heap.size w w0) := hba.trans (hb0.mono hba.size)
  have HW0 : Hid ((w.alloc (.cells (pageV k n (.slice A m c)) 28)).alloc (.cells (pageV k2 n2 (.slice A2 m2 c2)) 28) = w0) := by rw [Hid, hwa, hw0]
  have HV := Lib.hid hv
  have HV2 := Lib.hid hv2
  have HV3 := Lib.hid hv3
  have HN := Lib.hid hn
  unfold pageV at HW0 ⊢
  clear hv hv2 hv3 hw0 hwa hba hb0
  have h1 : ¬ (5000 : Int) < (m : Int) := by have := N.out; omega
  have h2 : ¬ (5000 : Int) < (m2 : Int) := by have := N2.out; omega
  have h3 : ¬ (5000 : Int) < (m3 : Int) := by have := N3.out; omega
  have HL := Lib.hid hl
  have HL2 := Lib.hid hl2
  have HL3 := Lib.hid hl3
  clear hl hl2 hl3
  go_enter Tryd.func4, Tryd.ntmps4
  go_wp2_with fail
  rw [HW0.out]
  refine (lives5_any _).mono ?_
  rintro e w1 ⟨rfl, hb1⟩
  have HX1 := Lib.hid (HX0.out.below hb1)
  have HY1 := Lib.hid (HY0.out.below hb1)
  have HB1 := Lib.hid (HB0.out.trans (hb1.mono HB0.out.size))
  obtain ⟨d0, d1, d2⟩ := HX1.out.cells
  obtain ⟨e0, e1, e2⟩ := HY1.out.cells
  clear hb1
  go_wp2_with fail
  clear d0 d1 d2 e0 e1 e2
  obtain ⟨kk, rfl⟩ : ∃ kk : Nat, k = (kk : Int) := ⟨k.toNat, by omega⟩
  have HK1 : Hid (1 ≤ kk) := by rw [Hid]; omega
  have HK7 : Hid (kk ≤ 7) := by rw [Hid]; omega
  have HPL : Hid (l.length ≤ 4080) := hp.2
  refine (bytes_ok _ kk n _ l (HV.out.below HB1.out) HK1.out HK7.out HPL.out HN.out).mono ?_
  rintro e w2 ⟨va, rfl, hown2, hb2⟩
  have HX2 := Lib.hid (HX1.out.below hb2)
  have HY2 := Lib.hid (HY1.out.below hb2)
  have HB2 := Lib.hid (HB1.out.trans (hb2.mono HB1.out.size))
  have HA2 := Lib.hid hown2.byt
  obtain ⟨Aa, na, ca, rfl, Na, hnca, hcma⟩ := hown2.byt.form
  obtain ⟨d0, d1, d2⟩ := HX2.out.cells
  clear hb2 hown2
  go_wp2_with fail
  refine (r5bytes_ok _ kk n _ l (HV.out.below HB2.out) HK1.out HK7.out HPL.out HN.out).mono ?_
  rintro e w3 ⟨vc, rfl, hown3, hb3⟩
  have HLP : Hid ((pageB kk n l).length = 4096) := pageB_len HPL.out
  obtain ⟨g, cg, rfl, hg1, hg2, hcg1, hcg2⟩ := hown3.at (by have := HLP.out; omega)
  have HG : Hid (w.heap.size ≤ g) := by have := HB2.out.size; rw [Hid]; omega
  rw [HLP.out] at hown3 hcg1 ⊢
  have HXd : Hid (Box w3.drew w.heap.size kk n (.slice A m c)) := HX2.out.below hb3.drew
  have HYd : Hid (Box w3.drew (w.heap.size + 1) k2 n2 (.slice A2 m2 c2)) := HY2.out.below hb3.drew
  have HBd : Hid (Below w.heap.size w w3.drew) := (HB2.out.trans (hb3.mono HB2.out.size)).drew
  have HAd : Hid (Byt w3.drew (.slice Aa na ca) (pageB kk n l)) := HA2.out.below hb3.drew
  have HCd : Hid (Own w3.drew w.heap.size 5 (.slice (some ⟨g, 0, none⟩) 4096 cg) (pageB kk n l)) := hown3.lower HB2.out.size
  have HCB : Hid (Byt w3.drew (.slice (some ⟨g, 0, none⟩) 4096 cg) (pageB kk n l)) := HCd.out.byt
  obtain ⟨bq, HE⟩ : ∃ bq, Hid (decide ((kk : Int) = k2 ∧ (n : Int) = (n2 : Int) ∧ trimR l = trimR l2) = bq) := ⟨_, rfl⟩
  generalize pageB kk n l = lp at *
  clear d0 d1 d2 hb3 hown3 hg1 hg2
  go_wp2_with fail
  refine wp_region_R (R := fun x y => Below x.heap.size x y) (by kernel_rfl) (fun _ => Below.refl _ _) (fun h k => h.trans (k.mono h.size)) (by kernel_rfl) (fun d v c a w h => by cases d <;> exact h)
    [(0, false), (1, false), (2, false), (3, false), (4, false), (5, false), (6, false), (7, false), (8, false), (9, false), (10, false), (11, false), (12, false), (14, false), (15, false), (13, true), (16, true), (17, false), (18, false), (19, false), (20, false), (22, false), (21, true), (23, true), (24, false), (25, false)] rfl (by kernel_rfl) (by kernel_rfl) ?_
  simp only [sel, List.getElem?_toArray, List.getElem?_cons_succ, List.getElem?_cons_zero]
  generalize w3.drew = wd at *
  (refine sch_take ?_ rfl ?_ ?_; rotate_left; (focus (intro u hu; go_simp <;> rfl)); simp only [Act.put, List.setIfInBounds_toArray, List.set_cons_zero, List.set_cons_succ])
  (refine sch_take ?_ rfl ?_ ?_; rotate_left; (focus (intro u hu; have tt := text_of (HAd.out.below hu); clear hu; go_simp <;> rfl)); simp only [Act.put, List.setIfInBounds_toArray, List.set_cons_zero, List.set_cons_succ])
  (refine sch_take ?_ rfl ?_ ?_; rotate_left; (focus (intro u hu; go_simp <;> rfl)); simp only [Act.put, List.setIfInBounds_toArray, List.set_cons_zero, List.set_cons_succ])
  (refine sch_take ?_ rfl ?_ ?_; rotate_left; (focus (intro u hu; have tt := text_of (HCB.out.below hu); clear hu; go_simp <;> rfl)); simp only [Act.put, List.setIfInBounds_toArray, List.set_cons_zero, List.set_cons_succ])
  iterate 7 (refine sch_take ?_ rfl ?_ ?_; rotate_left; (focus (intro u hu; go_simp <;> rfl)); simp only [Act.put, List.setIfInBounds_toArray, List.set_cons_zero, List.set_cons_succ])
  (refine sch_take ?_ rfl ?_ ?_; rotate_left; (focus (intro u hu; have cc := (HXd.out.below hu).cells; obtain ⟨c0, c1, c2⟩ := cc; clear hu; go_simp <;> rfl)); simp only [Act.put, List.setIfInBounds_toArray, List.set_cons_zero, List.set_cons_succ])
  (refine sch_take ?_ rfl ?_ ?_; rotate_left; (focus (intro u hu; have cc := (HYd.out.below hu).cells; obtain ⟨c0, c1, c2⟩ := cc; clear hu; go_simp <;> rfl)); simp only [Act.put, List.setIfInBounds_toArray, List.set_cons_zero, List.set_cons_succ])
  (refine sch_take ?_ rfl ?_ ?_; rotate_left; (focus (intro u hu; have cc := (HXd.out.below hu).cells; obtain ⟨c0, c1, c2⟩ := cc; clear hu; go_simp <;> rfl)); simp only [Act.put, List.setIfInBounds_toArray, List.set_cons_zero, List.set_cons_succ])
  (refine sch_take ?_ rfl ?_ ?_; rotate_left; (focus (intro u hu; have cc := (HYd.out.below hu).cells; obtain ⟨c0, c1, c2⟩ := cc; clear hu; go_simp <;> rfl)); simp only [Act.put, List.setIfInBounds_toArray, List.set_cons_zero, List.set_cons_succ])
  refine sch_call rfl ?_
  intro K hK
  go_simp
  refine (same_any _ (kk : Int) (n : Int) k2 (n2 : Int) _ _ l l2 (HV.out.below HBd.out) (HV2.out.below HBd.out)).mono ?_
  rintro e w4 ⟨rfl, hb4⟩; rw [HE.out]
  go_wp2_with fail
  refine hK _ _ hb4 ?_
  clear hK K
  have HXe := Lib.hid (HXd.out.below hb4)
  have HYe := Lib.hid (HYd.out.below hb4)
  have HBe := Lib.hid (HBd.out.trans (hb4.mono HBd.out.size))
  have HCe := Lib.hid (Own.keep HCd.out hb4)
  clear hb4
  refine sch_call rfl ?_
  intro K hK
  go_simp
  refine (r5same_any _ (kk : Int) (n : Int) k2 (n2 : Int) _ _ l l2 (HV.out.below HBe.out) (HV2.out.below HBe.out)).mono ?_
  rintro e w5 ⟨rfl, hb5⟩; rw [HE.out]
  go_wp2_with fail
  refine hK _ _ hb5 ?_
  clear hK K
  have HBf := Lib.hid (HBe.out.trans (hb5.mono HBe.out.size))
  have HCf := Lib.hid (Own.keep HCe.out hb5)
  clear hb5
  iterate 5 (refine sch_take ?_ rfl ?_ ?_; rotate_left; (focus (intro u hu; go_simp <;> rfl)); simp only [Act.put, List.setIfInBounds_toArray, List.set_cons_zero, List.set_cons_succ])
  refine sch_call rfl ?_
  intro K hK
  go_simp
  refine (kind_any _ _ lb (HV3.out.below HBf.out)).mono ?_
  rintro e w6 ⟨rfl, hb6⟩
  go_wp2_with fail
  refine hK _ _ hb6 ?_
  clear hK K
  have HBg := Lib.hid (HBf.out.trans (hb6.mono HBf.out.size))
  have HCg := Lib.hid (Own.keep HCf.out hb6)
  clear hb6
  refine sch_call rfl ?_
  intro K hK
  go_simp
  refine (r5kind_any _ _ lb (HV3.out.below HBg.out)).mono ?_
  rintro e w7 ⟨rfl, hb7⟩
  go_wp2_with fail
  refine hK _ _ hb7 ?_
  clear hK K
  have HBh := Lib.hid (HBg.out.trans (hb7.mono HBg.out.size))
  have HCh := Lib.hid (Own.keep HCg.out hb7)
  clear hb7
  iterate 2 (refine sch_take ?_ rfl ?_ ?_; rotate_left; (focus (intro u hu; go_simp <;> rfl)); simp only [Act.put, List.setIfInBounds_toArray, List.set_cons_zero, List.set_cons_succ])
  refine sch_nil ?_
  go_wp2_with fail
  refine (pick_any x 4096 _ (by omega) (by omega)).mono ?_
  rintro e w12 ⟨rfl, rfl⟩
  have hj1 := Int.emod_nonneg x (show (4096 : Int) ≠ 0 by omega)
  have hj2 := Int.emod_lt_of_pos x (show (0 : Int) < 4096 by omega)
  obtain ⟨j, hj⟩ : ∃ j : Nat, x % 4096 = (j : Int) := ⟨(x % 4096).toNat, by omega⟩
  rw [hj] at hj1 hj2 ⊢
  have hcell := own_cell HCh.out (j := j) (by have := HLP.out; omega)
  have hfr := own_frozen HCh.out HLP.out j
  have EX := byte_xor (lp.getD j 0) y
  have HS := Lib.hid (own_set HCh.out HLP.out j (lp.getD j 0 ^^^ y))
  have HBs := Lib.hid (HBh.out.setCell (p := ⟨g, j, none⟩) HG.out (.int .u8 ((lp.getD j 0 ^^^ y).toNat : Int)))
  clear hj
  generalize lp.getD j 0 ^^^ y = z at *
  generalize lp.getD j 0 = z0 at *
  obtain ⟨ws, hws⟩ : ∃ ws, w7.setCell ⟨g, j, none⟩ (.int .u8 (z.toNat : Int)) = ws := ⟨_, rfl⟩
  have HWS := Lib.hid hws
  rw [hws] at HS HBs
  obtain ⟨ly, hly⟩ : ∃ ly : List UInt8, ly = lp.set j z := ⟨_, rfl⟩
  have HLY : Hid (ly.length ≤ 5000) := by rw [Hid, hly, List.length_set]; have := HLP.out; omega
  rw [← hly] at HS
  obtain ⟨vy, hvy⟩ : ∃ vy, vy = Value.slice (some ⟨g, 0, none⟩) 4096 cg := ⟨_, rfl⟩
  have hrow := Rowz.lit ws [.slice A3 m3 c3, .slice (some ⟨g, 0, none⟩) 4096 cg] 22 (0, 0) (by simp [maxLen])
  have hb8 := below_new ws (.cells #[.slice A3 m3 c3, .slice (some ⟨g, 0, none⟩) 4096 cg] 22)
  obtain ⟨w8, hw8⟩ : ∃ w8, ws.alloc (.cells #[.slice A3 m3 c3, .slice (some ⟨g, 0, none⟩) 4096 cg] 22) = w8 := ⟨_, rfl⟩
  obtain ⟨rb, hrb⟩ : ∃ rb, ws.heap.size = rb := ⟨_, rfl⟩
  have hsz : ws.heap.size = w7.heap.size := by rw [← hws]; exact setCell_size _ _ _
  have HRB : Hid (w7.heap.size = rb) := hsz.symm.trans hrb
  have HRW : Hid (Rowz w8 (.slice (some ⟨rb, 0, none⟩) 2 2) [.slice A3 m3 c3, .slice (some ⟨g, 0, none⟩) 4096 cg]) := hw8 ▸ hrb ▸ hrow
  have HBT : Hid (Byts w8 [.slice A3 m3 c3, .slice (some ⟨g, 0, none⟩) 4096 cg] [lb, ly]) := by
    rw [Hid, ← hw8]
    exact byts_two ((HV3.out.below HBs.out).alloc _) (HS.out.byt.alloc _)
  have HBL0 : Hid (Below w.heap.size w w8) := by rw [Hid, ← hw8]; exact HBs.out.trans (hb8.mono HBs.out.size)
  have HW8 := Lib.hid hw8
  clear hrow hb8 hws hw8 hrb hsz hly hvy
  have hRB := HRB.out
  go_wp2_with fail
  rw [HWS.out, HW8.out]
  clear hRB
  go_loopw [90] (fun i wr => Two w wr rb (.slice A3 m3 c3) (.slice (some ⟨g, 0, none⟩) 4096 cg) lb ly i) (fun i _ => 2 - (intOf i).toNat)
  case atStart => exact ⟨0, by omega, rfl, HRW.out, HBT.out, HBL0.out⟩
  case round =>
    obtain ⟨k9, hk9, rfl, hrz, hbz, hbl⟩ := hrel
    have HRZ := Lib.hid hrz
    have HBZ := Lib.hid hbz
    have HBL := Lib.hid hbl
    clear hrz hbz hbl
    by_cases hlt : k9 < 2
    · obtain ⟨b9, off9, e9, _, hc9⟩ := HRZ.out.at (k := k9) (by simp; omega)
      injection e9 with e9
      injection e9 with e9 e10
      subst e9 e10
      have hc := hc9 k9 (by simp; omega)
      have hz := HBZ.out.2 k9 (by simp; omega) (by simp; omega)
      rw [Nat.zero_add] at hc
      have HLZ : Hid (([lb, ly][k9]'(by simp; omega)).length ≤ 5000) := by
        rw [Hid]
        have : k9 = 0 ∨ k9 = 1 := by omega
        rcases this with rfl | rfl
        · exact HL3.out
        · exact HLY.out
      generalize ([.slice A3 m3 c3, (.slice (some ⟨g, 0, none⟩) 4096 cg)] : List Value)[k9]'(by simp; omega) = z at *
      generalize ([lb, ly] : List (List UInt8))[k9]'(by simp; omega) = lz at *
      have HZ := Lib.hid hz
      obtain ⟨Az, nz0, cz, rfl, Nz, hncz, hcmz⟩ := hz.form
      clear hc9 hz
      go_wp2_with fail
      refine (kitown_any _ _ lz HZ.out (by have := HLZ.out; omega)).mono ?_
      rintro e w2 ⟨v2, rfl, hown2, hb2⟩
      have HO2 := Lib.hid hown2
      have HB2 := Lib.hid hb2
      have HZ2 := Lib.hid (HZ.out.below hb2)
      obtain ⟨A4, n4, c4, rfl, N4, hnc4, hcm4⟩ := hown2.byt.form
      clear hown2 hb2
      go_wp2_with fail
      by_cases ho : okB lz
      · have HR1 := Lib.hid (read_ok _ _ lz HO2.out.byt ho)
        have HR2 := Lib.hid (fun W (h : Byt W (.slice Az nz0 cz) lz) => r5read_ok _ _ lz h ho)
        unfold ReadE at HR1 HR2
        generalize (lz.getD 3 0).toNat = kz at *
        generalize numW lz = nz at *
        refine HR1.out.mono ?_
        rintro e w3 ⟨v3, rfl, hown3, hb3⟩
        have HM3 := Lib.hid hown3.byt
        obtain ⟨A5, n5, c5, rfl, N5, hnc5, hcm5⟩ := hown3.byt.form
        clear hown3
        obtain ⟨w4, hw4⟩ : ∃ w4, w3.alloc (.cells (pageV (kz : Int) (nz : Int) (.slice A5 n5 c5)) 28) = w4 := ⟨_, rfl⟩
        have hb4 : Below w3.heap.size w3 w4 := hw4 ▸ below_new w3 _
        have HBX4 : Hid (Box w4 w3.heap.size (kz : Int) (nz : Int) (.slice A5 n5 c5)) := hw4 ▸ Box.new w3 _ _ _
        have hR4 : Below w2.heap.size w2 w4 := hb3.trans (hb4.mono hb3.size)
        have HB4 := Lib.hid (HB2.out.trans (hR4.mono HB2.out.size))
        have HZ4 := Lib.hid (HZ2.out.below hR4)
        have HM4 := Lib.hid (HM3.out.below hb4)
        have HW4 := Lib.hid hw4
        unfold pageV at HW4 ⊢
        clear hb3 hb4 hR4 hw4
        go_wp2_with fail
        rw [HW4.out]
        refine (HR2.out _ HZ4.out).mono ?_
        rintro e w5 ⟨v6, rfl, hown5, hb5⟩
        have HM5 := Lib.hid hown5.byt
        obtain ⟨A7, n7, c7, rfl, N7, hnc7, hcm7⟩ := hown5.byt.form
        clear hown5
        obtain ⟨w6, hw6⟩ : ∃ w6, w5.alloc (.cells (pageV (kz : Int) (nz : Int) (.slice A7 n7 c7)) 28) = w6 := ⟨_, rfl⟩
        have hb6 : Below w5.heap.size w5 w6 := hw6 ▸ below_new w5 _
        have HBY6 : Hid (Box w6 w5.heap.size (kz : Int) (nz : Int) (.slice A7 n7 c7)) := hw6 ▸ Box.new w5 _ _ _
        have hR6 : Below w4.heap.size w4 w6 := hb5.trans (hb6.mono hb5.size)
        have HBX6 := Lib.hid (HBX4.out.below hR6)
        have HB6 := Lib.hid (HB4.out.trans (hR6.mono HB4.out.size))
        have HM6 := Lib.hid (HM4.out.below hR6)
        have HN6 := Lib.hid (HM5.out.below hb6)
        obtain ⟨d0, d1, d2⟩ := HBX6.out.cells
        obtain ⟨e0, e1, e2⟩ := HBY6.out.cells
        have HW6 := Lib.hid hw6
        rw [← hw6] at d0 d1 d2 e0 e1 e2
        unfold pageV at HW6 d0 d1 d2 e0 e1 e2 ⊢
        clear hb5 hb6 hR6 hw6
        go_wp2_with fail
        rw [HW6.out]
        refine (kitpage_any _ (kz : Int) (nz : Int) (kz : Int) (nz : Int) _ _ (lz.drop 16) (lz.drop 16) HM6.out HN6.out).mono ?_
        rw [show decide (((kz : Int) : Int) = (kz : Int) ∧ ((nz : Int) : Int) = (nz : Int) ∧ (lz.drop 16) = (lz.drop 16)) = true from by simp]
        rintro e w7 ⟨rfl, hb7⟩
        have HB7 := Lib.hid (HB6.out.trans (hb7.mono HB6.out.size))
        clear hb7 d0 d1 d2 e0 e1 e2
        go_wp2_with fail
        go_roundw
        case rel => exact ⟨k9 + 1, by omega, by go_num, HRZ.out.below HB7.out, HBZ.out.below HB7.out, HBL.out.trans (HB7.out.mono HBL.out.size)⟩
        case measure => simp [intOf]; omega
      · have HR1 := Lib.hid (read_bad _ _ lz HO2.out.byt ho)
        have HR2 := Lib.hid (fun W (h : Byt W (.slice Az nz0 cz) lz) => r5read_bad _ _ lz h ho)
        refine HR1.out.mono ?_
        rintro e w3 ⟨rfl, hb3⟩
        have HM3 := Lib.hid (Byt.nil w3)
        obtain ⟨w4, hw4⟩ : ∃ w4, w3.alloc (.cells (pageV 0 0 (.slice none 0 0)) 28) = w4 := ⟨_, rfl⟩
        have hb4 : Below w3.heap.size w3 w4 := hw4 ▸ below_new w3 _
        have HBX4 : Hid (Box w4 w3.heap.size 0 0 (.slice none 0 0)) := hw4 ▸ Box.new w3 _ _ _
        have hR4 : Below w2.heap.size w2 w4 := hb3.trans (hb4.mono hb3.size)
        have HB4 := Lib.hid (HB2.out.trans (hR4.mono HB2.out.size))
        have HZ4 := Lib.hid (HZ2.out.below hR4)
        have HM4 := Lib.hid (HM3.out.below hb4)
        have HW4 := Lib.hid hw4
        unfold pageV at HW4 ⊢
        clear hb3 hb4 hR4 hw4
        go_wp2_with fail
        rw [HW4.out]
        refine (HR2.out _ HZ4.out).mono ?_
        rintro e w5 ⟨rfl, hb5⟩
        have HM5 := Lib.hid (Byt.nil w5)
        obtain ⟨w6, hw6⟩ : ∃ w6, w5.alloc (.cells (pageV 0 0 (.slice none 0 0)) 28) = w6 := ⟨_, rfl⟩
        have hb6 : Below w5.heap.size w5 w6 := hw6 ▸ below_new w5 _
        have HBY6 : Hid (Box w6 w5.heap.size 0 0 (.slice none 0 0)) := hw6 ▸ Box.new w5 _ _ _
        have hR6 : Below w4.heap.size w4 w6 := hb5.trans (hb6.mono hb5.size)
        have HBX6 := Lib.hid (HBX4.out.below hR6)
        have HB6 := Lib.hid (HB4.out.trans (hR6.mono HB4.out.size))
        have HM6 := Lib.hid (HM4.out.below hR6)
        have HN6 := Lib.hid (HM5.out.below hb6)
        obtain ⟨d0, d1, d2⟩ := HBX6.out.cells
        obtain ⟨e0, e1, e2⟩ := HBY6.out.cells
        have HW6 := Lib.hid hw6
        rw [← hw6] at d0 d1 d2 e0 e1 e2
        unfold pageV at HW6 d0 d1 d2 e0 e1 e2 ⊢
        clear hb5 hb6 hR6 hw6
        go_wp2_with fail
        rw [HW6.out]
        refine (kitpage_any _ 0 0 0 0 _ _ [] [] HM6.out HN6.out).mono ?_
        rw [show decide ((0 : Int) = 0 ∧ (0 : Int) = 0 ∧ [] = []) = true from by simp]
        rintro e w7 ⟨rfl, hb7⟩
        have HB7 := Lib.hid (HB6.out.trans (hb7.mono HB6.out.size))
        clear hb7 d0 d1 d2 e0 e1 e2
        go_wp2_with fail
        go_roundw
        case rel => exact ⟨k9 + 1, by omega, by go_num, HRZ.out.below HB7.out, HBZ.out.below HB7.out, HBL.out.trans (HB7.out.mono HBL.out.size)⟩
        case measure => simp [intOf]; omega
    · obtain rfl : k9 = 2 := by omega
      go_wp2_with fail
      go_ret
      exact ⟨rfl, HBL.out⟩

theorem walk (w : World) (k : Int) (n : Nat) (vb : Value) (l : List UInt8) (k2 : Int) (n2 : Nat) (vb2 : Value) (l2 : List UInt8) (v3 : Value) (lb : List UInt8) (x : Int) (y : UInt8) (hv : Byt w vb l) (_hk : -9223372036854775808 ≤ k ∧ k ≤ 9223372036854775807) (hn : n < 4294967296) (hv2 : Byt w vb2 l2) (_hk2 : -9223372036854775808 ≤ k2 ∧ k2 ≤ 9223372036854775807) (_hn2 : n2 < 4294967296) (hv3 : Byt w v3 lb) (_hx : -9223372036854775808 ≤ x ∧ x ≤ 9223372036854775807) :
    Calls Tryd.prog 4 #[.agg (pageV k (n : Int) vb), .agg (pageV k2 (n2 : Int) vb2), v3, .int .i64 x, .int .u8 (y.toNat : Int)] w fun e w' => e = .returned (.bool true) ∧ Below w.heap.size w w' := by
  by_cases h : 5000 < l.length ∨ 5000 < l2.length ∨ 5000 < lb.length
  · exact walk_great w k n vb l k2 n2 vb2 l2 v3 lb x y hv hv2 hv3 hn h
  · by_cases hp : (1 ≤ k ∧ k ≤ 7) ∧ l.length ≤ 4080
    · exact walk_ok w k n vb l k2 n2 vb2 l2 v3 lb x y hv hv2 hv3 hn (by omega) (by omega) (by omega) hp
    · exact walk_bad w k n vb l k2 n2 vb2 l2 v3 lb x y hv hv2 hv3 hn (by omega) (by omega) (by omega) hp

set_option maxRecDepth 100000 in
theorem lifted (os : Os) (started : os.Started) (H : Type) (enc : TypeId × Value → H) :
    ReturnsInHanded {} Tryd.checked os 4 .any (fun w args => (Rows.pageCallsSpec.pre enc Tryd.prog Tryd.f4 Rows.pageCallsRow.domain false w args ∧ laidMetH Tryd.prog Rows.pageCallsRow.laid w) ∧ sizedMet enc Tryd.prog Tryd.f4 (OpenSpec.ofChange Rows.pageCallsSpec) false w args) (Rows.pageCallsSpec.post enc Tryd.prog Tryd.f4 false true false false) := by
  refine returnsInHanded_of_change_and (C := Tryd.checked) (X := fun w _ => laidMetH Tryd.prog Rows.pageCallsRow.laid w) (fun _ _ _ hh h => h.of_heap hh) ownKnobs started (by kernel_rfl) Tryd.func4
    (ChangeSpec.witness_shaped (enc := enc) (C := Tryd.checked) (os := os) (X := fun w _ => laidMetH Tryd.prog Rows.pageCallsRow.laid w) false (World.laidAll Tryd.prog os Rows.pageCallsRow.laid) #[.agg (pageV 0 0 (.slice none 0 0)), .agg (pageV 0 0 (.slice none 0 0)), .slice none 0 0, .int .i64 0, .int .u8 0] 8 (World.laidAll_os _ _ _)
      (World.shaped_of_ZipB (by kernel_rfl) (by kernel_rfl)) (by kernel_rfl) (by kernel_rfl) (by kernel_rfl)
      (by rw [MakeChecks.laidMetH_plain _ _ _ (by kernel_rfl)]; exact laidMet_laidAll _ (by kernel_rfl) (by kernel_rfl))) ?_
  intro W base args ds gs before hval0 hW hcnd _ _ _
  have hval : ∀ (j : Nat) t v, Tryd.f4.params[j]? = some t → args[j]? = some v → Value.okWide Tryd.prog W .any base t v := hval0
  have hW' := hW
  obtain ⟨p, q, hA0, hV, rfl, hfz, hnd⟩ := hW
  have hA : DataW.TrodAll enc Tryd.prog W 0 (fun _ => true) true Tryd.f4.params.toList args.toList ds p := hA0
  rw [Tryd.params4] at hA hval
  obtain ⟨v0, vs0, d0, ds0, p0, q0, hargs, rfl, rfl, h0, r0⟩ := trodAll_cons hA
  obtain ⟨v1, vs1, d1, ds1, p1, q1, rfl, rfl, rfl, h1, r1⟩ := trodAll_cons r0
  obtain ⟨v2, vs2, d2, ds2, p2, q2, rfl, rfl, rfl, h2, r2⟩ := trodAll_cons r1
  obtain ⟨v3, vs3, d3, ds3, p3, q3, rfl, rfl, rfl, h3, r3⟩ := trodAll_cons r2
  obtain ⟨v4, vs4, d4, ds4, p4, q4, rfl, rfl, rfl, h4, r4⟩ := trodAll_cons r3
  obtain ⟨rfl, rfl, rfl⟩ := trodAll_nil r4
  obtain rfl : args = #[v0, v1, v2, v3, v4] := by cases args; simp_all
  obtain ⟨rfl, rfl⟩ := trodVars_none hV
  have k0 := h0
  have lt0 : ∀ x ∈ p0, x.block < W.heap.size := by obtain ⟨m, hm⟩ := k0; exact DataW.trod_lt m _ _ _ hm
  obtain ⟨kd0, nm0, vb0, bd0, rfl, b0, bk0, bn0⟩ := open_page (hval 0 28 v0 rfl rfl) h0
  have k1 := h1
  have lt1 : ∀ x ∈ p1, x.block < W.heap.size := by obtain ⟨m, hm⟩ := k1; exact DataW.trod_lt m _ _ _ hm
  obtain ⟨kd1, nm1, vb1, bd1, rfl, b1, bk1, bn1⟩ := open_page (hval 1 28 v1 rfl rfl) h1
  have k2 := h2
  have lt2 : ∀ x ∈ p2, x.block < W.heap.size := by obtain ⟨m, hm⟩ := k2; exact DataW.trod_lt m _ _ _ hm
  obtain ⟨l2, b2⟩ := open_bytes (hval 2 22 v2 rfl rfl) h2
  obtain ⟨a3, rfl, rfl, rfl, w3⟩ := open_int Tryd.underlying3 (hval 3 3 v3 rfl rfl) h3
  have b3 := open_i64 w3
  obtain ⟨a4, rfl, rfl, rfl, w4⟩ := open_int Tryd.underlying5 (hval 4 5 v4 rfl rfl) h4
  obtain ⟨n4, rfl⟩ := open_u8 w4
  clear hA0 hval0
  refine (walk W kd0 nm0 vb0 bd0 kd1 nm1 vb1 bd1 v2 l2 a3 n4 b0 bk0 bn0 b1 bk1 bn1 b2 b3).mono fun e W' ⟨he, bel⟩ => ?_
  subst he
  exact ⟨_, rfl, _, _, _, [], _, [], hW', trodAll_mk1 (shut_bool Tryd.underlying4 _), (trodAll_cons_mk (Below.trod laidOuts (by kernel_rfl) (of_decide_eq_true (by kernel_rfl)) k0 bel lt0) (trodAll_cons_mk (Below.trod laidOuts (by kernel_rfl) (of_decide_eq_true (by kernel_rfl)) k1 bel lt1) (trodAll_cons_mk (Below.trod laidOuts (by kernel_rfl) (of_decide_eq_true (by kernel_rfl)) k2 bel lt2) (trodAll_cons_mk (shut_int Tryd.underlying3 w3) (trodAll_cons_mk (shut_int Tryd.underlying5 w4) trodAll_mk0))))), rfl, bel.frame _, fun h => by cases h⟩

theorem over : Rows.pageCallsRow.holds Tryd.pinned (OpenSpec.ofChange Rows.pageCallsSpec) :=
  OpenClaim.holds_of_wide 4 Tryd.f4 rfl rfl rfl rfl rfl rfl rfl ⟨rfl, rfl, rfl, rfl, rfl⟩ rfl rfl rfl rfl rfl (by kernel_rfl) Tryd.func4 (by kernel_rfl)
    (of_decide_eq_true (by kernel_rfl)) (by unfold Func.isWrapper; first | (rw [if_pos (by decide +kernel)]; kernel_rfl) | (rw [if_neg (by decide +kernel)]; exact ⟨rfl, rfl⟩))
    (fun os started H enc _ => lifted os started H enc)

theorem proved : Rows.PageCallsCardSaid :=
  Claim7.holds_tied_plain_at .later [] [.data, .pinned] true Rows.pageCallsCard.stood.harness false over (fun _ h => by cases h) (by kernel_rfl) (fun _ h => by cases h) pageCalls_row_tie rfl ⟨rfl, rfl⟩ (by kernel_rfl) rfl
    (fun f fn hf hfn => by
      obtain rfl : f = 4 := Option.some.inj ((show Tryd.prog.funcNamed "tallyman/tallymanlaw05.PageCalls" = some 4 by kernel_rfl).symm.trans hf) |>.symm
      obtain rfl : fn = Tryd.f4 := (Option.some.inj (Tryd.func4.symm.trans hfn)).symm
      exact ⟨by kernel_rfl, fun j t ht => by
        rw [Tryd.params4] at ht
        have hm : t ∈ [28, 28, 22, 3, 5] := by simpa using Array.mem_of_getElem? ht
        have hall : ([28, 28, 22, 3, 5].all fun u => !Tryd.prog.wantsStandIn u) = true := by kernel_rfl
        exact (show Tryd.prog.wantsStandIn t = false by simpa using List.all_eq_true.1 hall t hm)⟩)
    (by kernel_rfl)
#print axioms proved
end Go.Proofs.YtagchbpofoidmaaDoor.pageCalls
