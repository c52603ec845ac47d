/-
  The statement RootBack: a root is its bytes, and no other bytes are. Conditions: none.
-/
import Derived.Test.YteeljcnmgfjcmaaDoorCRtP
namespace Go.Proofs.YteeljcnmgfjcmaaDoor.rootBack
open Go.ChangeShapes Go.WideShapes Go.ChangeAt Go.RowKit Go.Maps
set_option maxRecDepth 100000
set_option linter.unusedVariables false

set_option maxRecDepth 100000 in
set_option maxHeartbeats 40000000 in
theorem walk_great (w : World) (r : Rt) (v1 : Value) (lb : List UInt8) (x : Int) (y : UInt8) (hr : r.Wf) (hb : Byt w v1 lb) (h : 5000 < lb.length) :
    Calls Tryd.prog 5 #[.agg (rtV r), v1, .int .i64 x, .int .u8 (y.toNat : Int)] w fun e w' => e = .returned (.bool true) ∧ Below w.heap.size w w' := by
  have Z := rtZero
  obtain ⟨A, m, c, rfl, N, hnc, hcm⟩ := hb.form
  obtain ⟨w0, hw0⟩ : ∃ w0, w.alloc (.cells (rtV r) 29) = w0 := ⟨_, rfl⟩
  have HX0 : Hid (RBox w0 w.heap.size r) := hw0 ▸ RBox.new w r
  have HB0 : Hid (Below w.heap.size w w0) := hw0 ▸ below_new w _
  have HW0 := Lib.hid hw0
  have HV := Lib.hid hb
  have HF := Lib.hid hr
  clear hb hw0 hr
  have h1 : (5000 : Int) < (m : Int) := by have := N.out; omega
  go_enter Tryd.func5, Tryd.ntmps5
  go_wp2_with fail
  rw [HW0.out]
  refine (lives6_any _).mono ?_
  rintro e w1 ⟨rfl, hb1⟩
  have HX1 := Lib.hid (HX0.out.below hb1)
  have HB1 := Lib.hid (HB0.out.trans (hb1.mono HB0.out.size))
  clear hb1
  go_wp2_with fail
  go_ret
  exact ⟨rfl, HB1.out⟩
set_option maxRecDepth 100000 in
set_option maxHeartbeats 40000000 in
theorem walk_bad (w : World) (r : Rt) (v1 : Value) (lb : List UInt8) (x : Int) (y : UInt8) (hr : r.Wf) (hb : Byt w v1 lb) (hl : lb.length ≤ 5000) (ho : readRt lb = none) :
    Calls Tryd.prog 5 #[.agg (rtV r), v1, .int .i64 x, .int .u8 (y.toNat : Int)] w fun e w' => e = .returned (.bool true) ∧ Below w.heap.size w w' := by
  have Z := rtZero
  obtain ⟨A, m, c, rfl, N, hnc, hcm⟩ := hb.form
  obtain ⟨w0, hw0⟩ : ∃ w0, w.alloc (.cells (rtV r) 29) = w0 := ⟨_, rfl⟩
  have HX0 : Hid (RBox w0 w.heap.size r) := hw0 ▸ RBox.new w r
  have HB0 : Hid (Below w.heap.size w w0) := hw0 ▸ below_new w _
  have HW0 := Lib.hid hw0
  have HV := Lib.hid hb
  have HF := Lib.hid hr
  clear hb hw0 hr
  have HL := Lib.hid hl
  have h1 : ¬ (5000 : Int) < (m : Int) := by have := N.out; omega
  clear hl
  go_enter Tryd.func5, Tryd.ntmps5
  go_wp2_with fail
  rw [HW0.out]
  refine (lives6_any _).mono ?_
  rintro e w1 ⟨rfl, hb1⟩
  have HX1 := Lib.hid (HX0.out.below hb1)
  have HB1 := Lib.hid (HB0.out.trans (hb1.mono HB0.out.size))
  clear hb1
  go_wp2_with fail
  refine (kitown_any _ _ lb (HV.out.below HB1.out) (by have := HL.out; omega)).mono ?_
  rintro e w2 ⟨v3, rfl, hown2, hb2⟩
  have HX2 := Lib.hid (HX1.out.below hb2)
  have HB2 := Lib.hid (HB1.out.trans (hb2.mono HB1.out.size))
  have HO2 := Lib.hid hown2
  obtain ⟨A3, n3, c3, rfl, N3, hnc3, hcm3⟩ := hown2.byt.form
  clear hown2 hb2
  go_wp2_with fail
  have HRD := rread_any _ _ _ HO2.out.byt
  rw [readQ_none ho] at HRD
  refine HRD.mono ?_
  clear HRD ho
  rintro e w4 ⟨rfl, hb4⟩
  have HX4 := Lib.hid (HX2.out.below hb4)
  have HB4 := Lib.hid (HB2.out.trans (hb4.mono HB2.out.size))
  have HQB : Hid (w.heap.size ≤ w4.heap.size) := HB4.out.size
  have HNE : Hid (w.heap.size ≠ w4.heap.size) := by have := HX4.out.lt; rw [Hid]; omega
  clear hb4
  go_wp2_with (first | (with_reducible (show wpList _ _ _ (⟨_, Op.store 29 _ _, _, _, _, _⟩ :: _) _ _); refine wpList_storeNewRt zeroR zeroR rfl _ _ rfl rfl rfl ?_; intro wS hqS hbS hlS; have HQS := Lib.hid hqS; have HXS := Lib.hid (HX4.out.below hbS); have HBS := Lib.hid (HB4.out.trans (hbS.mono HB4.out.size)); clear hqS hbS hlS) | (with_reducible (show wpList _ _ _ (⟨_, Op.load 29 _, _, _, _, _⟩ :: _) _ _); first | (refine wpList_exec rfl _ (exec_loadRt _ rfl _ rfl (HXS.out)) ?_)))
  by_cases hok : okR r
  · have HOK := Lib.hid hok
    refine (rbytes_ok _ r HF.out hok).mono ?_
    rintro e w6 ⟨v6, rfl, hown6, hb6⟩
    have HX6 := Lib.hid (HXS.out.below hb6)
    have HQ6 := Lib.hid (HQS.out.below hb6)
    have HB6 := Lib.hid (HBS.out.trans (hb6.mono HBS.out.size))
    have hlen6 : (rootB r).length = 4096 := rootB_len r
    obtain ⟨g, cg, rfl, hg1, hg2, hc1, hc2⟩ := hown6.at (by omega)
    have HG : Hid (w.heap.size ≤ g) := by have := HBS.out.size; rw [Hid]; omega
    have HGQ : Hid (w4.heap.size ≠ g) := by have := HQS.out.lt; rw [Hid]; omega
    rw [hlen6] at hown6 hc1 ⊢
    have HO6 := Lib.hid hown6
    have HLEN := Lib.hid hlen6
    clear hown6 hb6 hlen6 hg1 hg2 hok
    go_wp2_with fail
    refine (kitown_any _ _ _ HO6.out.byt (by have := HLEN.out; omega)).mono ?_
    rintro e w7 ⟨v7, rfl, hown7, hb7⟩
    have HX7 := Lib.hid (HX6.out.below hb7)
    have HQ7 := Lib.hid (HQ6.out.below hb7)
    have HB7 := Lib.hid (HB6.out.trans (hb7.mono HB6.out.size))
    have HO7 := Lib.hid (Own.keep HO6.out hb7)
    have HR7 := Lib.hid hown7.byt
    obtain ⟨A7, n7, c7, rfl, N7, hnc7, hcm7⟩ := hown7.byt.form
    clear hown7 hb7
    go_wp2_with fail
    have HRD := rread_any _ _ _ HR7.out
    rw [readQ_some (readRt_root HF.out HOK.out)] at HRD
    refine HRD.mono ?_
    clear HRD
    rintro e w8 ⟨rfl, hb8⟩
    have HX8 := Lib.hid (HX7.out.below hb8)
    have HQ8 := Lib.hid (HQ7.out.below hb8)
    have HB8 := Lib.hid (HB7.out.trans (hb8.mono HB7.out.size))
    have HO8 := Lib.hid (Own.keep HO7.out hb8)
    have HNEX : Hid (¬ w.heap.size = w4.heap.size) := by have := HNE.out; rw [Hid]; omega
    have HNEG : Hid (¬ g = w4.heap.size) := fun e => HGQ.out e.symm
    clear hb8
    go_wp2_with (first | (with_reducible (show wpList _ _ _ (⟨_, Op.store 29 _ _, _, _, _, _⟩ :: _) _ _); refine wpList_storeRt rfl _ _ rfl _ rfl r rfl _ (HQ8.out) ?_; intro w9 hq9 hb9 ht9 hs9) | (with_reducible (show wpList _ _ _ (⟨_, Op.load 29 _, _, _, _, _⟩ :: _) _ _); first | (refine wpList_exec rfl _ (exec_loadRt _ rfl _ rfl (HX8.out.trn ht9 HNEX.out)) ?_) | (refine wpList_exec rfl _ (exec_loadRt _ rfl _ rfl (hq9)) ?_)) | (with_reducible (show wpList _ _ _ (⟨_, Op.binOp BinOp.neq 29 _ _ _, _, _, _, _⟩ :: _) _ _); refine wpList_exec rfl (.bool false) (exec_neRt_same _ _ rfl rfl rfl HF.out) ?_))
    have HB9 := Lib.hid (hb9 _ _ HB8.out HQB.out)
    have HO9 := Lib.hid (own_trn HO8.out ht9 (fun k e => by have e' : g = k := Option.some.inj e; subst e'; exact HNEG.out))
    clear hq9 hb9 ht9 hs9
    refine (pick_any x 4096 _ (by omega) (by omega)).mono ?_
    rintro e w12 ⟨rfl, rfl⟩
    have hj1 := Int.emod_nonneg x (show (4096 : Int) ≠ 0 by omega)
    have hj2 := Int.emod_lt_of_pos x (show (0 : Int) < 4096 by omega)
    obtain ⟨j, hj⟩ : ∃ j : Nat, x % 4096 = (j : Int) := ⟨(x % 4096).toNat, by omega⟩
    rw [hj] at hj1 hj2 ⊢
    have HJ : Hid (j < 4096) := by rw [Hid]; omega
    have hcell := own_cell HO9.out (j := j) (by have := HLEN.out; have := HJ.out; omega)
    have hfr := own_frozen HO9.out HLEN.out j
    have EX := byte_xor ((rootB r).getD j 0) y
    have HS := Lib.hid (own_set HO9.out HLEN.out j ((rootB r).getD j 0 ^^^ y))
    have HBg := Lib.hid (HB9.out.setCell (p := ⟨g, j, none⟩) HG.out (.int .u8 (((rootB r).getD j 0 ^^^ y).toNat : Int)))
    have HTN : Hid (y = 0 ∧ (rootB r).set j ((rootB r).getD j 0 ^^^ y) = rootB r ∨ y ≠ 0 ∧ ¬ okB ((rootB r).set j ((rootB r).getD j 0 ^^^ y))) := by
      by_cases hy : y = 0
      · exact .inl ⟨hy, by rw [hy, xor0, set_same]⟩
      · exact .inr ⟨hy, okB_turned (rootB_ok r) HJ.out (xor_ne hy)⟩
    clear hj
    generalize (rootB r).getD j 0 ^^^ y = z at *
    generalize (rootB r).getD j 0 = z0 at *
    go_wp2_with fail
    rcases HTN.out with ⟨hy, hset⟩ | ⟨hy, hset⟩
    · rw [hset] at HS
      subst hy
      have HRD := rread_any _ _ _ HS.out.byt
      rw [readQ_some (readRt_root HF.out HOK.out)] at HRD
      refine HRD.mono ?_
      clear HRD
      rintro e w13 ⟨rfl, hb13⟩
      go_wp2_with fail
      go_ret
      exact ⟨rfl, HBg.out.trans (hb13.mono HBg.out.size)⟩
    · refine (rread_not _ _ _ HS.out.byt hset).mono ?_
      rintro e w13 ⟨rfl, hb13⟩
      have hy0 : ((y.toNat : Int) == 0) = false := by
        have : y.toNat ≠ 0 := fun e => hy (UInt8.toNat_inj.1 e)
        simp; exact this
      go_wp2_with fail
      go_ret
      exact ⟨rfl, HBg.out.trans (hb13.mono HBg.out.size)⟩
  · have HNK : Hid (checkN r = 2) := by unfold checkN; rw [Hid, if_neg hok]
    refine (rbytes_bad _ r hok).mono ?_
    rintro e w6 ⟨rfl, hb6⟩
    have HX6 := Lib.hid (HXS.out.below hb6)
    have HB6 := Lib.hid (HBS.out.trans (hb6.mono HBS.out.size))
    clear hb6 hok
    go_wp2_with ((with_reducible (show wpList _ _ _ (⟨_, Op.load 29 _, _, _, _, _⟩ :: _) _ _); first | (refine wpList_exec rfl _ (exec_loadRt _ rfl _ rfl (HX6.out)) ?_)))
    have HCK := check_any w6 r
    rw [HNK.out] at HCK
    refine HCK.mono ?_
    clear HCK
    rintro e w7 ⟨rfl, hb7⟩
    go_wp2_with fail
    go_ret
    exact ⟨rfl, HB6.out.trans (hb7.mono HB6.out.size)⟩
set_option maxRecDepth 100000 in
set_option maxHeartbeats 40000000 in
theorem walk_ok (w : World) (r : Rt) (v1 : Value) (lb : List UInt8) (x : Int) (y : UInt8) (hr : r.Wf) (hb : Byt w v1 lb) (s : Rt) (hl : lb.length ≤ 5000) (ho : readRt lb = some s) :
    Calls Tryd.prog 5 #[.agg (rtV r), v1, .int .i64 x, .int .u8 (y.toNat : Int)] w fun e w' => e = .returned (.bool true) ∧ Below w.heap.size w w' := by
  have Z := rtZero
  obtain ⟨A, m, c, rfl, N, hnc, hcm⟩ := hb.form
  obtain ⟨w0, hw0⟩ : ∃ w0, w.alloc (.cells (rtV r) 29) = w0 := ⟨_, rfl⟩
  have HX0 : Hid (RBox w0 w.heap.size r) := hw0 ▸ RBox.new w r
  have HB0 : Hid (Below w.heap.size w w0) := hw0 ▸ below_new w _
  have HW0 := Lib.hid hw0
  have HV := Lib.hid hb
  have HF := Lib.hid hr
  clear hb hw0 hr
  have HL := Lib.hid hl
  have h1 : ¬ (5000 : Int) < (m : Int) := by have := N.out; omega
  clear hl
  go_enter Tryd.func5, Tryd.ntmps5
  go_wp2_with fail
  rw [HW0.out]
  refine (lives6_any _).mono ?_
  rintro e w1 ⟨rfl, hb1⟩
  have HX1 := Lib.hid (HX0.out.below hb1)
  have HB1 := Lib.hid (HB0.out.trans (hb1.mono HB0.out.size))
  clear hb1
  go_wp2_with fail
  refine (kitown_any _ _ lb (HV.out.below HB1.out) (by have := HL.out; omega)).mono ?_
  rintro e w2 ⟨v3, rfl, hown2, hb2⟩
  have HX2 := Lib.hid (HX1.out.below hb2)
  have HB2 := Lib.hid (HB1.out.trans (hb2.mono HB1.out.size))
  have HO2 := Lib.hid hown2
  obtain ⟨A3, n3, c3, rfl, N3, hnc3, hcm3⟩ := hown2.byt.form
  clear hown2 hb2
  go_wp2_with fail
  obtain ⟨hsb, hsok, hswf, hsp⟩ := readRt_some ho
  have HRD := rread_any _ _ _ HO2.out.byt
  rw [readQ_some ho] at HRD
  refine HRD.mono ?_
  clear HRD ho hsp
  have HSB := Lib.hid hsb
  have HSO := Lib.hid hsok
  have HSW := Lib.hid hswf
  clear hsb hsok hswf
  rintro e w4 ⟨rfl, hb4⟩
  have HX4 := Lib.hid (HX2.out.below hb4)
  have HB4 := Lib.hid (HB2.out.trans (hb4.mono HB2.out.size))
  have HQB : Hid (w.heap.size ≤ w4.heap.size) := HB4.out.size
  have HNE : Hid (w.heap.size ≠ w4.heap.size) := by have := HX4.out.lt; rw [Hid]; omega
  clear hb4
  go_wp2_with (first | (with_reducible (show wpList _ _ _ (⟨_, Op.store 29 _ _, _, _, _, _⟩ :: _) _ _); refine wpList_storeNewRt zeroR s rfl _ _ rfl rfl rfl ?_; intro w5 hq5 hb5 hl5; have HQ5 := Lib.hid hq5; have HX5 := Lib.hid (HX4.out.below hb5); have HB5 := Lib.hid (HB4.out.trans (hb5.mono HB4.out.size)); clear hq5 hb5 hl5) | (with_reducible (show wpList _ _ _ (⟨_, Op.load 29 _, _, _, _, _⟩ :: _) _ _); first | (refine wpList_exec rfl _ (exec_loadRt _ rfl _ rfl (HQ5.out)) ?_)))
  have hbo := rbytes_ok w5 s HSW.out HSO.out
  rw [HSB.out] at hbo
  refine hbo.mono ?_
  clear hbo
  rintro e wS ⟨v5, rfl, hown5, hb5⟩
  have HQS := Lib.hid (HQ5.out.below hb5)
  have HXS := Lib.hid (HX5.out.below hb5)
  have HBS := Lib.hid (HB5.out.trans (hb5.mono HB5.out.size))
  have T1 := text_of hown5.byt
  have T2 := text_of (HV.out.below HBS.out)
  obtain ⟨A5, n5, c5, rfl, N5, hnc5, hcm5⟩ := hown5.byt.form
  generalize (⟨lb.toArray⟩ : ByteArray) = sb at *
  clear hown5 hb5
  go_wp2_with ((with_reducible (show wpList _ _ _ (⟨_, Op.load 29 _, _, _, _, _⟩ :: _) _ _); first | (refine wpList_exec rfl _ (exec_loadRt _ rfl _ rfl (HXS.out)) ?_)))
  by_cases hok : okR r
  · have HOK := Lib.hid hok
    refine (rbytes_ok _ r HF.out hok).mono ?_
    rintro e w6 ⟨v6, rfl, hown6, hb6⟩
    have HX6 := Lib.hid (HXS.out.below hb6)
    have HQ6 := Lib.hid (HQS.out.below hb6)
    have HB6 := Lib.hid (HBS.out.trans (hb6.mono HBS.out.size))
    have hlen6 : (rootB r).length = 4096 := rootB_len r
    obtain ⟨g, cg, rfl, hg1, hg2, hc1, hc2⟩ := hown6.at (by omega)
    have HG : Hid (w.heap.size ≤ g) := by have := HBS.out.size; rw [Hid]; omega
    have HGQ : Hid (w4.heap.size ≠ g) := by have := HQS.out.lt; rw [Hid]; omega
    rw [hlen6] at hown6 hc1 ⊢
    have HO6 := Lib.hid hown6
    have HLEN := Lib.hid hlen6
    clear hown6 hb6 hlen6 hg1 hg2 hok
    go_wp2_with fail
    refine (kitown_any _ _ _ HO6.out.byt (by have := HLEN.out; omega)).mono ?_
    rintro e w7 ⟨v7, rfl, hown7, hb7⟩
    have HX7 := Lib.hid (HX6.out.below hb7)
    have HQ7 := Lib.hid (HQ6.out.below hb7)
    have HB7 := Lib.hid (HB6.out.trans (hb7.mono HB6.out.size))
    have HO7 := Lib.hid (Own.keep HO6.out hb7)
    have HR7 := Lib.hid hown7.byt
    obtain ⟨A7, n7, c7, rfl, N7, hnc7, hcm7⟩ := hown7.byt.form
    clear hown7 hb7
    go_wp2_with fail
    have HRD := rread_any _ _ _ HR7.out
    rw [readQ_some (readRt_root HF.out HOK.out)] at HRD
    refine HRD.mono ?_
    clear HRD
    rintro e w8 ⟨rfl, hb8⟩
    have HX8 := Lib.hid (HX7.out.below hb8)
    have HQ8 := Lib.hid (HQ7.out.below hb8)
    have HB8 := Lib.hid (HB7.out.trans (hb8.mono HB7.out.size))
    have HO8 := Lib.hid (Own.keep HO7.out hb8)
    have HNEX : Hid (¬ w.heap.size = w4.heap.size) := by have := HNE.out; rw [Hid]; omega
    have HNEG : Hid (¬ g = w4.heap.size) := fun e => HGQ.out e.symm
    clear hb8
    go_wp2_with (first | (with_reducible (show wpList _ _ _ (⟨_, Op.store 29 _ _, _, _, _, _⟩ :: _) _ _); refine wpList_storeRt rfl _ _ rfl _ rfl r rfl _ (HQ8.out) ?_; intro w9 hq9 hb9 ht9 hs9) | (with_reducible (show wpList _ _ _ (⟨_, Op.load 29 _, _, _, _, _⟩ :: _) _ _); first | (refine wpList_exec rfl _ (exec_loadRt _ rfl _ rfl (HX8.out.trn ht9 HNEX.out)) ?_) | (refine wpList_exec rfl _ (exec_loadRt _ rfl _ rfl (hq9)) ?_)) | (with_reducible (show wpList _ _ _ (⟨_, Op.binOp BinOp.neq 29 _ _ _, _, _, _, _⟩ :: _) _ _); refine wpList_exec rfl (.bool false) (exec_neRt_same _ _ rfl rfl rfl HF.out) ?_))
    have HB9 := Lib.hid (hb9 _ _ HB8.out HQB.out)
    have HO9 := Lib.hid (own_trn HO8.out ht9 (fun k e => by have e' : g = k := Option.some.inj e; subst e'; exact HNEG.out))
    clear hq9 hb9 ht9 hs9
    refine (pick_any x 4096 _ (by omega) (by omega)).mono ?_
    rintro e w12 ⟨rfl, rfl⟩
    have hj1 := Int.emod_nonneg x (show (4096 : Int) ≠ 0 by omega)
    have hj2 := Int.emod_lt_of_pos x (show (0 : Int) < 4096 by omega)
    obtain ⟨j, hj⟩ : ∃ j : Nat, x % 4096 = (j : Int) := ⟨(x % 4096).toNat, by omega⟩
    rw [hj] at hj1 hj2 ⊢
    have HJ : Hid (j < 4096) := by rw [Hid]; omega
    have hcell := own_cell HO9.out (j := j) (by have := HLEN.out; have := HJ.out; omega)
    have hfr := own_frozen HO9.out HLEN.out j
    have EX := byte_xor ((rootB r).getD j 0) y
    have HS := Lib.hid (own_set HO9.out HLEN.out j ((rootB r).getD j 0 ^^^ y))
    have HBg := Lib.hid (HB9.out.setCell (p := ⟨g, j, none⟩) HG.out (.int .u8 (((rootB r).getD j 0 ^^^ y).toNat : Int)))
    have HTN : Hid (y = 0 ∧ (rootB r).set j ((rootB r).getD j 0 ^^^ y) = rootB r ∨ y ≠ 0 ∧ ¬ okB ((rootB r).set j ((rootB r).getD j 0 ^^^ y))) := by
      by_cases hy : y = 0
      · exact .inl ⟨hy, by rw [hy, xor0, set_same]⟩
      · exact .inr ⟨hy, okB_turned (rootB_ok r) HJ.out (xor_ne hy)⟩
    clear hj
    generalize (rootB r).getD j 0 ^^^ y = z at *
    generalize (rootB r).getD j 0 = z0 at *
    go_wp2_with fail
    rcases HTN.out with ⟨hy, hset⟩ | ⟨hy, hset⟩
    · rw [hset] at HS
      subst hy
      have HRD := rread_any _ _ _ HS.out.byt
      rw [readQ_some (readRt_root HF.out HOK.out)] at HRD
      refine HRD.mono ?_
      clear HRD
      rintro e w13 ⟨rfl, hb13⟩
      go_wp2_with fail
      go_ret
      exact ⟨rfl, HBg.out.trans (hb13.mono HBg.out.size)⟩
    · refine (rread_not _ _ _ HS.out.byt hset).mono ?_
      rintro e w13 ⟨rfl, hb13⟩
      have hy0 : ((y.toNat : Int) == 0) = false := by
        have : y.toNat ≠ 0 := fun e => hy (UInt8.toNat_inj.1 e)
        simp; exact this
      go_wp2_with fail
      go_ret
      exact ⟨rfl, HBg.out.trans (hb13.mono HBg.out.size)⟩
  · have HNK : Hid (checkN r = 2) := by unfold checkN; rw [Hid, if_neg hok]
    refine (rbytes_bad _ r hok).mono ?_
    rintro e w6 ⟨rfl, hb6⟩
    have HX6 := Lib.hid (HXS.out.below hb6)
    have HB6 := Lib.hid (HBS.out.trans (hb6.mono HBS.out.size))
    clear hb6 hok
    go_wp2_with ((with_reducible (show wpList _ _ _ (⟨_, Op.load 29 _, _, _, _, _⟩ :: _) _ _); first | (refine wpList_exec rfl _ (exec_loadRt _ rfl _ rfl (HX6.out)) ?_)))
    have HCK := check_any w6 r
    rw [HNK.out] at HCK
    refine HCK.mono ?_
    clear HCK
    rintro e w7 ⟨rfl, hb7⟩
    go_wp2_with fail
    go_ret
    exact ⟨rfl, HB6.out.trans (hb7.mono HB6.out.size)⟩

theorem walk (w : World) (r : Rt) (v1 : Value) (lb : List UInt8) (x : Int) (y : UInt8) (hr : r.Wf) (hb : Byt w v1 lb) (_hx : -9223372036854775808 ≤ x ∧ x ≤ 9223372036854775807) :
    Calls Tryd.prog 5 #[.agg (rtV r), v1, .int .i64 x, .int .u8 (y.toNat : Int)] w fun e w' => e = .returned (.bool true) ∧ Below w.heap.size w w' := by
  by_cases h : 5000 < lb.length
  · exact walk_great w r v1 lb x y hr hb h
  · cases ho : readRt lb with
    | none => exact walk_bad w r v1 lb x y hr hb (by omega) ho
    | some s => exact walk_ok w r v1 lb x y hr hb s (by omega) ho

set_option maxRecDepth 100000 in
theorem lifted (os : Os) (started : os.Started) (H : Type) (enc : TypeId × Value → H) :
    ReturnsInHanded {} Tryd.checked os 5 .any (fun w args => (Rows.rootBackSpec.pre enc Tryd.prog Tryd.f5 Rows.rootBackRow.domain false w args ∧ laidMetH Tryd.prog Rows.rootBackRow.laid w) ∧ sizedMet enc Tryd.prog Tryd.f5 (OpenSpec.ofChange Rows.rootBackSpec) false w args) (Rows.rootBackSpec.post enc Tryd.prog Tryd.f5 false true false false) := by
  refine returnsInHanded_of_change_and (C := Tryd.checked) (X := fun w _ => laidMetH Tryd.prog Rows.rootBackRow.laid w) (fun _ _ _ hh h => h.of_heap hh) ownKnobs started (by kernel_rfl) Tryd.func5
    (ChangeSpec.witness_shaped (enc := enc) (C := Tryd.checked) (os := os) (X := fun w _ => laidMetH Tryd.prog Rows.rootBackRow.laid w) false (World.laidAll Tryd.prog os Rows.rootBackRow.laid) #[.agg (rtV zeroR), .slice none 0 0, .int .i64 0, .int .u8 0] 8 (World.laidAll_os _ _ _)
      (World.shaped_of_ZipB (by kernel_rfl) (by kernel_rfl)) (by kernel_rfl) (by kernel_rfl) (by kernel_rfl)
      (by rw [MakeChecks.laidMetH_plain _ _ _ (by kernel_rfl)]; exact laidMet_laidAll _ (by kernel_rfl) (by kernel_rfl))) ?_
  intro W base args ds gs before hval0 hW hcnd _ _ _
  have hval : ∀ (j : Nat) t v, Tryd.f5.params[j]? = some t → args[j]? = some v → Value.okWide Tryd.prog W .any base t v := hval0
  have hW' := hW
  obtain ⟨p, q, hA0, hV, rfl, hfz, hnd⟩ := hW
  have hA : DataW.TrodAll enc Tryd.prog W 0 (fun _ => true) true Tryd.f5.params.toList args.toList ds p := hA0
  rw [Tryd.params5] at hA hval
  obtain ⟨v0, vs0, d0, ds0, p0, q0, hargs, rfl, rfl, h0, r0⟩ := trodAll_cons hA
  obtain ⟨v1, vs1, d1, ds1, p1, q1, rfl, rfl, rfl, h1, r1⟩ := trodAll_cons r0
  obtain ⟨v2, vs2, d2, ds2, p2, q2, rfl, rfl, rfl, h2, r2⟩ := trodAll_cons r1
  obtain ⟨v3, vs3, d3, ds3, p3, q3, rfl, rfl, rfl, h3, r3⟩ := trodAll_cons r2
  obtain ⟨rfl, rfl, rfl⟩ := trodAll_nil r3
  obtain rfl : args = #[v0, v1, v2, v3] := by cases args; simp_all
  obtain ⟨rfl, rfl⟩ := trodVars_none hV
  have k0 := h0
  have lt0 : ∀ x ∈ p0, x.block < W.heap.size := by obtain ⟨m, hm⟩ := k0; exact DataW.trod_lt m _ _ _ hm
  obtain ⟨rt0, rfl, b0⟩ := open_root (hval 0 29 v0 rfl rfl) h0
  have k1 := h1
  have lt1 : ∀ x ∈ p1, x.block < W.heap.size := by obtain ⟨m, hm⟩ := k1; exact DataW.trod_lt m _ _ _ hm
  obtain ⟨l1, b1⟩ := open_bytes (hval 1 22 v1 rfl rfl) h1
  obtain ⟨a2, rfl, rfl, rfl, w2⟩ := open_int Tryd.underlying3 (hval 2 3 v2 rfl rfl) h2
  have b2 := open_i64 w2
  obtain ⟨a3, rfl, rfl, rfl, w3⟩ := open_int Tryd.underlying5 (hval 3 5 v3 rfl rfl) h3
  obtain ⟨n3, rfl⟩ := open_u8 w3
  clear hA0 hval0
  refine (walk W rt0 v1 l1 a2 n3 b0 b1 b2).mono fun e W' ⟨he, bel⟩ => ?_
  subst he
  exact ⟨_, rfl, _, _, _, [], _, [], hW', trodAll_mk1 (shut_bool Tryd.underlying4 _), (trodAll_cons_mk (Below.trod laidOuts (by kernel_rfl) (of_decide_eq_true (by kernel_rfl)) k0 bel lt0) (trodAll_cons_mk (Below.trod laidOuts (by kernel_rfl) (of_decide_eq_true (by kernel_rfl)) k1 bel lt1) (trodAll_cons_mk (shut_int Tryd.underlying3 w2) (trodAll_cons_mk (shut_int Tryd.underlying5 w3) trodAll_mk0)))), rfl, bel.frame _, fun h => by cases h⟩

theorem over : Rows.rootBackRow.holds Tryd.pinned (OpenSpec.ofChange Rows.rootBackSpec) :=
  OpenClaim.holds_of_wide 5 Tryd.f5 rfl rfl rfl rfl rfl rfl rfl ⟨rfl, rfl, rfl, rfl, rfl⟩ rfl rfl rfl rfl rfl (by kernel_rfl) Tryd.func5 (by kernel_rfl)
    (of_decide_eq_true (by kernel_rfl)) (by unfold Func.isWrapper; first | (rw [if_pos (by decide +kernel)]; kernel_rfl) | (rw [if_neg (by decide +kernel)]; exact ⟨rfl, rfl⟩))
    (fun os started H enc _ => lifted os started H enc)

theorem proved : Rows.RootBackCardSaid :=
  Claim7.holds_tied_plain_at .later [] [.data, .pinned] true Rows.rootBackCard.stood.harness false over (fun _ h => by cases h) (by kernel_rfl) (fun _ h => by cases h) rootBack_row_tie rfl ⟨rfl, rfl⟩ (by kernel_rfl) rfl
    (fun f fn hf hfn => by
      obtain rfl : f = 5 := Option.some.inj ((show Tryd.prog.funcNamed "tallyman/tallymanlaw06.RootBack" = some 5 by kernel_rfl).symm.trans hf) |>.symm
      obtain rfl : fn = Tryd.f5 := (Option.some.inj (Tryd.func5.symm.trans hfn)).symm
      exact ⟨by kernel_rfl, fun j t ht => by
        rw [Tryd.params5] at ht
        have hm : t ∈ [29, 22, 3, 5] := by simpa using Array.mem_of_getElem? ht
        have hall : ([29, 22, 3, 5].all fun u => !Tryd.prog.wantsStandIn u) = true := by kernel_rfl
        exact (show Tryd.prog.wantsStandIn t = false by simpa using List.all_eq_true.1 hall t hm)⟩)
    (by kernel_rfl)
#print axioms proved
end Go.Proofs.YteeljcnmgfjcmaaDoor.rootBack
