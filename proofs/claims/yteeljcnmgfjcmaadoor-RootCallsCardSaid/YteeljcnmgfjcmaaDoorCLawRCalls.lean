/-
  The statement RootCalls: roots are told, read and chosen as the document says. Conditions: none.
-/
import Derived.Test.YteeljcnmgfjcmaaDoorMg10
namespace Go.Proofs.YteeljcnmgfjcmaaDoor.rootCalls
open Go.ChangeShapes Go.WideShapes Go.ChangeAt Go.RowKit Go.Maps
set_option maxRecDepth 100000
set_option linter.unusedVariables false

theorem readQ_wf (b : List UInt8) : (readQ b).1.Wf := by
  cases h : readRt b with
  | none => rw [readQ_none h]; exact zeroR_wf
  | some r => rw [readQ_some h]; exact (readRt_some h).2.2.1
theorem readQ_le (b : List UInt8) : (readQ b).2 ≤ 4 := by
  cases h : readRt b with
  | none => rw [readQ_none h]; decide
  | some r => rw [readQ_some h]; exact Nat.zero_le _
set_option maxRecDepth 100000 in
set_option maxHeartbeats 40000000 in
theorem walk_great (w : World) (r s : Rt) (ir is : Bool) (vb : Value) (lb : List UInt8) (x : Int) (y : UInt8) (hr : r.Wf) (hs : s.Wf) (hb : Byt w vb lb) (h : 5000 < lb.length) :
    Calls Tryd.prog 4 #[.agg (rtV r), .agg (rtV s), .bool ir, .bool is, vb, .int .i64 x, .int .u8 (y.toNat : Int)] w fun e w' => e = .returned (.bool true) ∧ Below w.heap.size w w' := by
  have Z := rtZero
  obtain ⟨A, m, c, rfl, N, hnc, hcm⟩ := hb.form
  obtain ⟨w0, hw0⟩ : ∃ w0, w.alloc (.cells (rtV r) 29) = w0 := ⟨_, rfl⟩
  obtain ⟨w1, hw1⟩ : ∃ w1, w0.alloc (.cells (rtV s) 29) = w1 := ⟨_, rfl⟩
  have hb0 : Below w.heap.size w w0 := hw0 ▸ below_new w _
  have hb1 : Below w0.heap.size w0 w1 := hw1 ▸ below_new w0 _
  have hs0 : w0.heap.size = w.heap.size + 1 := by rw [← hw0]; simp
  have R1 : Hid (RBox w1 w.heap.size r) := (hw0 ▸ RBox.new w r : RBox w0 w.heap.size r).below hb1
  have S1 : Hid (RBox w1 (w.heap.size + 1) s) := hs0 ▸ (hw1 ▸ RBox.new w0 s : RBox w1 w0.heap.size s)
  have B1 : Hid (Below w.heap.size w w1) := hb0.trans (hb1.mono hb0.size)
  have HW0 := Lib.hid hw0
  have HW1 := Lib.hid hw1
  have HV := Lib.hid hb
  have GR := Lib.hid hr
  have GS := Lib.hid hs
  clear hb hw0 hw1 hb0 hb1 hs0 hr hs
  have h1 : (5000 : Int) < (m : Int) := by have := N.out; omega
  go_enter Tryd.func4, Tryd.ntmps4
  go_wp2_with fail
  rw [HW0.out, HW1.out]
  clear HW0 HW1
  refine (lives6_any _).mono ?_
  rintro e w2 ⟨rfl, hb⟩
  have R2 := Lib.hid (R1.out.below hb)
  have S2 := Lib.hid (S1.out.below hb)
  have B2 := Lib.hid (B1.out.trans (hb.mono B1.out.size))
  clear hb R1 S1 B1
  go_wp2_with fail
  go_ret
  exact ⟨rfl, B2.out⟩
set_option maxRecDepth 100000 in
set_option maxHeartbeats 40000000 in
theorem walk_ok (w : World) (r s : Rt) (ir is : Bool) (vb : Value) (lb : List UInt8) (x : Int) (y : UInt8) (hr : r.Wf) (hs : s.Wf) (hb : Byt w vb lb) (hl : lb.length ≤ 5000) (hok : okR r) :
    Calls Tryd.prog 4 #[.agg (rtV r), .agg (rtV s), .bool ir, .bool is, vb, .int .i64 x, .int .u8 (y.toNat : Int)] w fun e w' => e = .returned (.bool true) ∧ Below w.heap.size w w' := by
  have Z := rtZero
  obtain ⟨A, m, c, rfl, N, hnc, hcm⟩ := hb.form
  obtain ⟨w0, hw0⟩ : ∃ w0, w.alloc (.cells (rtV r) 29) = w0 := ⟨_, rfl⟩
  obtain ⟨w1, hw1⟩ : ∃ w1, w0.alloc (.cells (rtV s) 29) = w1 := ⟨_, rfl⟩
  have hb0 : Below w.heap.size w w0 := hw0 ▸ below_new w _
  have hb1 : Below w0.heap.size w0 w1 := hw1 ▸ below_new w0 _
  have hs0 : w0.heap.size = w.heap.size + 1 := by rw [← hw0]; simp
  have R1 : Hid (RBox w1 w.heap.size r) := (hw0 ▸ RBox.new w r : RBox w0 w.heap.size r).below hb1
  have S1 : Hid (RBox w1 (w.heap.size + 1) s) := hs0 ▸ (hw1 ▸ RBox.new w0 s : RBox w1 w0.heap.size s)
  have B1 : Hid (Below w.heap.size w w1) := hb0.trans (hb1.mono hb0.size)
  have HW0 := Lib.hid hw0
  have HW1 := Lib.hid hw1
  have HV := Lib.hid hb
  have GR := Lib.hid hr
  have GS := Lib.hid hs
  clear hb hw0 hw1 hb0 hb1 hs0 hr hs
  have HL := Lib.hid hl
  have h1 : ¬ (5000 : Int) < (m : Int) := by have := N.out; omega
  clear hl
  go_enter Tryd.func4, Tryd.ntmps4
  go_wp2_with fail
  rw [HW0.out, HW1.out]
  clear HW0 HW1
  refine (lives6_any _).mono ?_
  rintro e w2 ⟨rfl, hb⟩
  have R2 := Lib.hid (R1.out.below hb)
  have S2 := Lib.hid (S1.out.below hb)
  have B2 := Lib.hid (B1.out.trans (hb.mono B1.out.size))
  clear hb R1 S1 B1
  go_wp2_with (with_reducible (show wpList _ _ _ (⟨_, Op.load 29 _, _, _, _, _⟩ :: _) _ _); first | (refine wpList_exec rfl _ (exec_loadRt _ rfl _ rfl (R2.out)) ?_))
  refine (rbytes_ok _ r GR.out hok).mono ?_
  rintro e w3 ⟨v3, rfl, hown3, hb⟩
  have O3 := Lib.hid hown3
  obtain ⟨A3, n3, c3, rfl, N3, hnc3, hcm3⟩ := hown3.byt.form
  clear hown3
  have R3 := Lib.hid (R2.out.below hb)
  have S3 := Lib.hid (S2.out.below hb)
  have B3 := Lib.hid (B2.out.trans (hb.mono B2.out.size))
  clear hb R2 S2 B2
  go_wp2_with (with_reducible (show wpList _ _ _ (⟨_, Op.load 29 _, _, _, _, _⟩ :: _) _ _); first | (refine wpList_exec rfl _ (exec_loadRt _ rfl _ rfl (R3.out)) ?_))
  refine (r6bytes_ok _ r GR.out hok).mono ?_
  rintro e w4 ⟨v4, rfl, hown4, hb⟩
  have hlen4 : (rootB r).length = 4096 := rootB_len r
  obtain ⟨g, cg, rfl, hg1, hg2, hc1, hc2⟩ := hown4.at (by omega)
  have HG : Hid (w.heap.size ≤ g) := by have := B3.out.size; rw [Hid]; omega
  rw [hlen4] at hown4 hc1 ⊢
  have OY4 := Lib.hid hown4
  have HLEN := Lib.hid hlen4
  clear hown4 hlen4 hg1 hg2
  have R4 := Lib.hid (R3.out.below hb)
  have S4 := Lib.hid (S3.out.below hb)
  have B4 := Lib.hid (B3.out.trans (hb.mono B3.out.size))
  have O4 := Lib.hid (Own.keep O3.out hb)
  clear hb R3 S3 B3 O3
  go_wp2_with (with_reducible (show wpList _ _ _ (⟨_, Op.load 29 _, _, _, _, _⟩ :: _) _ _); first | (refine wpList_exec rfl _ (exec_loadRt _ rfl _ rfl (R4.out)) ?_) | (refine wpList_exec rfl _ (exec_loadRt _ rfl _ rfl (S4.out)) ?_))
  have CH := choose_any w4 r s ir is
  have CW := Lib.hid (chooseR_wf ir is GR.out GS.out)
  have CR : Hid (∀ w, Calls Tryd.prog 19 #[.agg (rtV r), .agg (rtV s), .bool ir, .bool is] w (ChoE w (chooseR r s ir is))) := fun w => r6choose_any w r s ir is
  generalize chooseR r s ir is = ch at *
  obtain ⟨cr, cb⟩ := ch
  refine CH.mono ?_
  clear CH
  rintro e w5 ⟨rfl, hb⟩
  have R5 := Lib.hid (R4.out.below hb)
  have S5 := Lib.hid (S4.out.below hb)
  have B5 := Lib.hid (B4.out.trans (hb.mono B4.out.size))
  have O5 := Lib.hid (Own.keep O4.out hb)
  have OY5 := Lib.hid (Own.keep OY4.out hb)
  clear hb R4 S4 B4 O4 OY4
  go_wp2_with (first | (with_reducible (show wpList _ _ _ (⟨_, Op.store 29 _ _, _, _, _, _⟩ :: _) _ _); refine wpList_storeNewRt zeroR cr rfl _ _ rfl rfl rfl ?_; intro w6 hx6 hb6 hl6; have P6 := Lib.hid hx6; clear hx6 hl6) | (with_reducible (show wpList _ _ _ (⟨_, Op.load 29 _, _, _, _, _⟩ :: _) _ _); first | (refine wpList_exec rfl _ (exec_loadRt _ rfl _ rfl (R5.out.below hb6)) ?_) | (refine wpList_exec rfl _ (exec_loadRt _ rfl _ rfl (S5.out.below hb6)) ?_)))
  have R6 := Lib.hid (R5.out.below hb6)
  have S6 := Lib.hid (S5.out.below hb6)
  have B6 := Lib.hid (B5.out.trans (hb6.mono B5.out.size))
  have O6 := Lib.hid (Own.keep O5.out hb6)
  have OY6 := Lib.hid (Own.keep OY5.out hb6)
  clear hb6 R5 S5 B5 O5 OY5
  refine (CR.out _).mono ?_
  clear CR
  rintro e w7 ⟨rfl, hb⟩
  have R7 := Lib.hid (R6.out.below hb)
  have S7 := Lib.hid (S6.out.below hb)
  have B7 := Lib.hid (B6.out.trans (hb.mono B6.out.size))
  have P7 := Lib.hid (P6.out.below hb)
  have O7 := Lib.hid (Own.keep O6.out hb)
  have OY7 := Lib.hid (Own.keep OY6.out hb)
  clear hb R6 S6 B6 P6 O6 OY6
  go_wp2_with (with_reducible (show wpList _ _ _ (⟨_, Op.store 29 _ _, _, _, _, _⟩ :: _) _ _); refine wpList_storeNewRt zeroR cr rfl _ _ rfl rfl rfl ?_; intro w8 hx8 hb8 hl8)
  have Q8 : Hid (RBox w8.drew w7.heap.size cr) := hx8
  have hbd := hb8.drew
  clear hx8 hl8 hb8
  have R8 := Lib.hid (R7.out.below hbd)
  have S8 := Lib.hid (S7.out.below hbd)
  have P8 := Lib.hid (P7.out.below hbd)
  have B8 := Lib.hid (B7.out.trans (hbd.mono B7.out.size))
  have O8 := Lib.hid (Own.keep O7.out hbd)
  have OY8 := Lib.hid (Own.keep OY7.out hbd)
  clear hbd R7 S7 P7 B7 O7 OY7
  have CK : Hid (∀ w, Calls Tryd.prog 16 #[.agg (rtV r)] w (IntE w (checkN r))) := fun w => check_any w r
  have CL : Hid (∀ w, Calls Tryd.prog 20 #[.agg (rtV r)] w (IntE w (checkN r))) := fun w => r6check_any w r
  have SK : Hid (∀ w, Calls Tryd.prog 15 #[.agg (rtV r)] w (IntE w (r.e % 2))) := fun w => rslot_any w r
  have SL : Hid (∀ w, Calls Tryd.prog 21 #[.agg (rtV r)] w (IntE w (r.e % 2))) := fun w => r6slot_any w r
  generalize checkN r = kc at *
  generalize r.e % 2 = ks at *
  refine wp_region_R (R := fun x y => Below x.heap.size x y) (by kernel_rfl) (fun _ => Below.refl _ _) (fun h k => h.trans (k.mono h.size)) (by kernel_rfl) (fun d v c a w h => by cases d <;> exact h)
    [(0, false), (1, false), (2, false), (3, false), (4, false), (5, false), (6, false), (7, false), (8, false), (9, false), (10, false), (11, false), (12, false), (13, false), (14, false), (15, false), (16, false), (17, false), (18, false), (19, false), (20, false), (21, false), (23, false), (22, true), (24, true), (25, false), (26, false), (27, false), (28, false), (30, false), (29, true), (31, true), (32, false), (33, false)] rfl (by kernel_rfl) (by kernel_rfl) ?_
  simp only [sel, List.getElem?_toArray, List.getElem?_cons_succ, List.getElem?_cons_zero]
  generalize w8.drew = wd8 at *
  (refine sch_take ?_ rfl ?_ ?_; rotate_left; (focus (intro u hu; go_simp <;> rfl)); simp only [Act.put, List.setIfInBounds_toArray, List.set_cons_zero, List.set_cons_succ])
  refine sch_take (.string ⟨(rootB r).toArray⟩) rfl (fun u hu => by have T := text_of (O8.out.byt.below hu); go_simp <;> rfl) ?_
  simp only [Act.put, List.setIfInBounds_toArray, List.set_cons_zero, List.set_cons_succ]
  (refine sch_take ?_ rfl ?_ ?_; rotate_left; (focus (intro u hu; go_simp <;> rfl)); simp only [Act.put, List.setIfInBounds_toArray, List.set_cons_zero, List.set_cons_succ])
  refine sch_take (.string ⟨(rootB r).toArray⟩) rfl (fun u hu => by have T := text_of (OY8.out.byt.below hu); go_simp <;> rfl) ?_
  simp only [Act.put, List.setIfInBounds_toArray, List.set_cons_zero, List.set_cons_succ]
  refine sch_take (.bool false) rfl (fun u hu => by go_simp <;> rfl) ?_
  simp only [Act.put, List.setIfInBounds_toArray, List.set_cons_zero, List.set_cons_succ]
  iterate 6 (refine sch_take ?_ rfl ?_ ?_; rotate_left; (focus (intro u hu; go_simp <;> rfl)); simp only [Act.put, List.setIfInBounds_toArray, List.set_cons_zero, List.set_cons_succ])
  refine sch_take (.agg (rtV cr)) rfl (fun u hu => exec_loadRt _ rfl _ rfl (P8.out.below hu)) ?_
  simp only [Act.put, List.setIfInBounds_toArray, List.set_cons_zero, List.set_cons_succ]
  refine sch_take (.agg (rtV cr)) rfl (fun u hu => exec_loadRt _ rfl _ rfl (Q8.out.below hu)) ?_
  simp only [Act.put, List.setIfInBounds_toArray, List.set_cons_zero, List.set_cons_succ]
  refine sch_take (.bool false) rfl (fun u hu => exec_neRt_same _ _ rfl rfl rfl CW.out) ?_
  simp only [Act.put, List.setIfInBounds_toArray, List.set_cons_zero, List.set_cons_succ]
  iterate 7 (refine sch_take ?_ rfl ?_ ?_; rotate_left; (focus (intro u hu; go_simp <;> rfl)); simp only [Act.put, List.setIfInBounds_toArray, List.set_cons_zero, List.set_cons_succ])
  refine sch_take (.agg (rtV r)) rfl (fun u hu => exec_loadRt _ rfl _ rfl (R8.out.below hu)) ?_
  simp only [Act.put, List.setIfInBounds_toArray, List.set_cons_zero, List.set_cons_succ]
  refine sch_take (.agg (rtV r)) rfl (fun u hu => exec_loadRt _ rfl _ rfl (R8.out.below hu)) ?_
  simp only [Act.put, List.setIfInBounds_toArray, List.set_cons_zero, List.set_cons_succ]
  refine sch_call rfl ?_
  intro K hK
  go_simp
  refine (CK.out _).mono ?_
  rintro e w9 ⟨rfl, hb⟩
  go_wp2_with fail
  refine hK _ _ hb ?_
  clear hK K
  have R9 := Lib.hid (R8.out.below hb)
  have S9 := Lib.hid (S8.out.below hb)
  have B9 := Lib.hid (B8.out.trans (hb.mono B8.out.size))
  have P9 := Lib.hid (P8.out.below hb)
  have Q9 := Lib.hid (Q8.out.below hb)
  have O9 := Lib.hid (Own.keep O8.out hb)
  have OY9 := Lib.hid (Own.keep OY8.out hb)
  clear hb R8 S8 B8 P8 Q8 O8 OY8
  refine sch_call rfl ?_
  intro K hK
  go_simp
  refine (CL.out _).mono ?_
  rintro e w10 ⟨rfl, hb⟩
  go_wp2_with fail
  refine hK _ _ hb ?_
  clear hK K
  have R10 := Lib.hid (R9.out.below hb)
  have S10 := Lib.hid (S9.out.below hb)
  have B10 := Lib.hid (B9.out.trans (hb.mono B9.out.size))
  have P10 := Lib.hid (P9.out.below hb)
  have Q10 := Lib.hid (Q9.out.below hb)
  have O10 := Lib.hid (Own.keep O9.out hb)
  have OY10 := Lib.hid (Own.keep OY9.out hb)
  clear hb R9 S9 B9 P9 Q9 O9 OY9
  iterate 3 (refine sch_take ?_ rfl ?_ ?_; rotate_left; (focus (intro u hu; go_simp <;> rfl)); simp only [Act.put, List.setIfInBounds_toArray, List.set_cons_zero, List.set_cons_succ])
  refine sch_take (.agg (rtV r)) rfl (fun u hu => exec_loadRt _ rfl _ rfl (R10.out.below hu)) ?_
  simp only [Act.put, List.setIfInBounds_toArray, List.set_cons_zero, List.set_cons_succ]
  refine sch_take (.agg (rtV r)) rfl (fun u hu => exec_loadRt _ rfl _ rfl (R10.out.below hu)) ?_
  simp only [Act.put, List.setIfInBounds_toArray, List.set_cons_zero, List.set_cons_succ]
  refine sch_call rfl ?_
  intro K hK
  go_simp
  refine (SK.out _).mono ?_
  rintro e w11 ⟨rfl, hb⟩
  go_wp2_with fail
  refine hK _ _ hb ?_
  clear hK K
  have R11 := Lib.hid (R10.out.below hb)
  have S11 := Lib.hid (S10.out.below hb)
  have B11 := Lib.hid (B10.out.trans (hb.mono B10.out.size))
  have P11 := Lib.hid (P10.out.below hb)
  have Q11 := Lib.hid (Q10.out.below hb)
  have O11 := Lib.hid (Own.keep O10.out hb)
  have OY11 := Lib.hid (Own.keep OY10.out hb)
  clear hb R10 S10 B10 P10 Q10 O10 OY10
  refine sch_call rfl ?_
  intro K hK
  go_simp
  refine (SL.out _).mono ?_
  rintro e w12 ⟨rfl, hb⟩
  go_wp2_with fail
  refine hK _ _ hb ?_
  clear hK K
  have R12 := Lib.hid (R11.out.below hb)
  have S12 := Lib.hid (S11.out.below hb)
  have B12 := Lib.hid (B11.out.trans (hb.mono B11.out.size))
  have P12 := Lib.hid (P11.out.below hb)
  have Q12 := Lib.hid (Q11.out.below hb)
  have O12 := Lib.hid (Own.keep O11.out hb)
  have OY12 := Lib.hid (Own.keep OY11.out hb)
  clear hb R11 S11 B11 P11 Q11 O11 OY11
  iterate 2 (refine sch_take ?_ rfl ?_ ?_; rotate_left; (focus (intro u hu; go_simp <;> rfl)); simp only [Act.put, List.setIfInBounds_toArray, List.set_cons_zero, List.set_cons_succ])
  refine sch_nil ?_
  go_wp2_with fail
  refine (pick_any x 4096 _ (by omega) (by omega)).mono ?_
  rintro e w13 ⟨rfl, rfl⟩
  have hj1 := Int.emod_nonneg x (show (4096 : Int) ≠ 0 by omega)
  have hj2 := Int.emod_lt_of_pos x (show (0 : Int) < 4096 by omega)
  obtain ⟨j, hj⟩ : ∃ j : Nat, x % 4096 = (j : Int) := ⟨(x % 4096).toNat, by omega⟩
  rw [hj] at hj1 hj2 ⊢
  have HJ : Hid (j < 4096) := by rw [Hid]; omega
  have hcell := own_cell OY12.out (j := j) (by have := HLEN.out; have := HJ.out; omega)
  have hfr := own_frozen OY12.out HLEN.out j
  have EX := byte_xor ((rootB r).getD j 0) y
  have HS := Lib.hid (own_set OY12.out HLEN.out j ((rootB r).getD j 0 ^^^ y))
  have BY := Lib.hid (B12.out.setCell (p := ⟨g, j, none⟩) HG.out (.int .u8 (((rootB r).getD j 0 ^^^ y).toNat : Int)))
  clear hj
  have HLX : Hid (((rootB r).set j ((rootB r).getD j 0 ^^^ y)).length = 4096) := by rw [Hid, List.length_set]; exact HLEN.out
  generalize (rootB r).set j ((rootB r).getD j 0 ^^^ y) = lx at *
  generalize (rootB r).getD j 0 ^^^ y = z at *
  generalize (rootB r).getD j 0 = z0 at *
  have HSB := Lib.hid HS.out.byt
  clear R12 S12 P12 Q12 O12 OY12 B12
  obtain ⟨wy, hwy⟩ : ∃ wy, w12.setCell ⟨g, j, none⟩ (.int .u8 (z.toNat : Int)) = wy := ⟨_, rfl⟩
  rw [hwy] at BY HSB
  have HWY := Lib.hid hwy
  have HSY : Hid (w12.heap.size = wy.heap.size) := by rw [Hid, ← hwy, setCell_size]
  clear hwy HS
  obtain ⟨wz, hwz⟩ : ∃ wz, wy.alloc (.cells #[.slice A m c, .slice (some ⟨g, 0, none⟩) 4096 cg] 22) = wz := ⟨_, rfl⟩
  have hbz : Below wy.heap.size wy wz := hwz ▸ below_new wy _
  have GZ : Hid (wz.heap[wy.heap.size]? = some (.cells #[.slice A m c, .slice (some ⟨g, 0, none⟩) 4096 cg] 22)) := by rw [Hid, ← hwz]; exact heap_alloc_new wy _
  have GL : Hid (wy.heap.size < wz.heap.size) := by rw [Hid, ← hwz]; simp
  have Bz := Lib.hid (BY.out.trans (hbz.mono BY.out.size))
  have Yz := Lib.hid (HSB.out.below hbz)
  have Vz := Lib.hid (HV.out.below Bz.out)
  have HWZ := Lib.hid hwz
  have HLY : Hid ((lx).length ≤ 5000) := by have := HLX.out; rw [Hid]; omega
  clear hbz hwz
  go_wp2_with fail
  rw [HWY.out, HWZ.out, HSY.out]
  clear HSY
  clear HWZ
  generalize wy.heap.size = gz at *
  generalize lx = ly at *
  have ZZ : Hid (Below wz.heap.size wz wz) := Below.refl _ _
  refine wp_loop_rounds 3 ?_
  rw [rounds_succ]
  have hc0 : wz.cell? ⟨gz, 0, none⟩ = some (.slice A m c) := by rw [ZZ.out.cell (p := ⟨gz, 0, none⟩) GL.out, cell_of_row _ _ _ _ _ _ GZ.out]; rfl
  go_wp2_with fail
  refine (kitown_any _ _ lb Vz.out (by have := HL.out; omega)).mono ?_
  rintro e wa0 ⟨va0, rfl, hown, hb⟩
  have OWa0 := Lib.hid hown.byt
  obtain ⟨Aa0, na0, ca0, rfl, Na0, hna0, hma0⟩ := hown.byt.form
  have Ba0 := Lib.hid (Bz.out.trans (hb.mono Bz.out.size))
  have Ya0 := Lib.hid (Yz.out.below hb)
  have Va0 := Lib.hid (Vz.out.below hb)
  have Za0 := Lib.hid (ZZ.out.trans (hb.mono ZZ.out.size))
  clear hown hb hc0 Bz Yz Vz ZZ
  go_wp2_with fail
  have QW0 := Lib.hid (readQ_wf lb)
  have QL0 := Lib.hid (readQ_le lb)
  have RA := rread_any _ _ _ OWa0.out
  have RB : Hid (∀ w v, Byt w v lb → Calls Tryd.prog 24 #[v] w (RtN w (readQ lb).1 (readQ lb).2)) := fun w v h => r6read_any w v _ h
  generalize readQ lb = rq0 at *
  obtain ⟨q0, k0⟩ := rq0
  refine RA.mono ?_
  clear RA
  rintro e wb0 ⟨rfl, hb⟩
  have Bb0 := Lib.hid (Ba0.out.trans (hb.mono Ba0.out.size))
  have Yb0 := Lib.hid (Ya0.out.below hb)
  have Vb0 := Lib.hid (Va0.out.below hb)
  have Zb0 := Lib.hid (Za0.out.trans (hb.mono Za0.out.size))
  clear hb Ba0 Ya0 Va0 Za0 OWa0
  go_wp2_with (with_reducible (show wpList _ _ _ (⟨_, Op.store 29 _ _, _, _, _, _⟩ :: _) _ _); refine wpList_storeNewRt zeroR q0 rfl _ _ rfl rfl rfl ?_; intro wc0 hx hb hl)
  have Bc0 := Lib.hid (Bb0.out.trans (hb.mono Bb0.out.size))
  have Yc0 := Lib.hid (Yb0.out.below hb)
  have Vc0 := Lib.hid (Vb0.out.below hb)
  have Zc0 := Lib.hid (Zb0.out.trans (hb.mono Zb0.out.size))
  have Mc0 := Lib.hid hx
  clear hb hx hl Bb0 Yb0 Vb0 Zb0
  refine (RB.out _ _ Vc0.out).mono ?_
  rintro e wd0 ⟨rfl, hb⟩
  have Bd0 := Lib.hid (Bc0.out.trans (hb.mono Bc0.out.size))
  have Yd0 := Lib.hid (Yc0.out.below hb)
  have Vd0 := Lib.hid (Vc0.out.below hb)
  have Zd0 := Lib.hid (Zc0.out.trans (hb.mono Zc0.out.size))
  have Md0 := Lib.hid (Mc0.out.below hb)
  clear hb Bc0 Yc0 Vc0 Zc0 Mc0 RB
  go_wp2_with (first | (with_reducible (show wpList _ _ _ (⟨_, Op.store 29 _ _, _, _, _, _⟩ :: _) _ _); refine wpList_storeNewRt zeroR q0 rfl _ _ rfl rfl rfl ?_; intro we0 hxe0 hbe0 hle0) | (with_reducible (show wpList _ _ _ (⟨_, Op.load 29 _, _, _, _, _⟩ :: _) _ _); first | (refine wpList_exec rfl _ (exec_loadRt _ rfl _ rfl (hxe0)) ?_) | (refine wpList_exec rfl _ (exec_loadRt _ rfl _ rfl (Md0.out.below hbe0)) ?_)) | (with_reducible (show wpList _ _ _ (⟨_, Op.binOp BinOp.neq 29 _ _ _, _, _, _, _⟩ :: _) _ _); refine wpList_exec rfl (.bool false) (exec_neRt_same _ _ rfl rfl rfl QW0.out) ?_))
  have Be0 := Lib.hid (Bd0.out.trans (hbe0.mono Bd0.out.size))
  have Ye0 := Lib.hid (Yd0.out.below hbe0)
  have Ve0 := Lib.hid (Vd0.out.below hbe0)
  have ZZ := Lib.hid (Zd0.out.trans (hbe0.mono Zd0.out.size))
  clear hxe0 hbe0 hle0 Bd0 Yd0 Vd0 Zd0 Md0
  rw [rounds_succ]
  have hc1 : we0.cell? ⟨gz, 1, none⟩ = some (.slice (some ⟨g, 0, none⟩) 4096 cg) := by rw [ZZ.out.cell (p := ⟨gz, 1, none⟩) GL.out, cell_of_row _ _ _ _ _ _ GZ.out]; rfl
  go_wp2_with fail
  refine (kitown_any _ _ ly Ye0.out (by have := HLY.out; omega)).mono ?_
  rintro e wa1 ⟨va1, rfl, hown, hb⟩
  have OWa1 := Lib.hid hown.byt
  obtain ⟨Aa1, na1, ca1, rfl, Na1, hna1, hma1⟩ := hown.byt.form
  have Ba1 := Lib.hid (Be0.out.trans (hb.mono Be0.out.size))
  have Ya1 := Lib.hid (Ye0.out.below hb)
  have Va1 := Lib.hid (Ve0.out.below hb)
  have Za1 := Lib.hid (ZZ.out.trans (hb.mono ZZ.out.size))
  clear hown hb hc1 Be0 Ye0 Ve0 ZZ
  go_wp2_with fail
  have QW1 := Lib.hid (readQ_wf ly)
  have QL1 := Lib.hid (readQ_le ly)
  have RA := rread_any _ _ _ OWa1.out
  have RB : Hid (∀ w v, Byt w v ly → Calls Tryd.prog 24 #[v] w (RtN w (readQ ly).1 (readQ ly).2)) := fun w v h => r6read_any w v _ h
  generalize readQ ly = rq1 at *
  obtain ⟨q1, k1⟩ := rq1
  refine RA.mono ?_
  clear RA
  rintro e wb1 ⟨rfl, hb⟩
  have Bb1 := Lib.hid (Ba1.out.trans (hb.mono Ba1.out.size))
  have Yb1 := Lib.hid (Ya1.out.below hb)
  have Vb1 := Lib.hid (Va1.out.below hb)
  have Zb1 := Lib.hid (Za1.out.trans (hb.mono Za1.out.size))
  clear hb Ba1 Ya1 Va1 Za1 OWa1
  go_wp2_with (with_reducible (show wpList _ _ _ (⟨_, Op.store 29 _ _, _, _, _, _⟩ :: _) _ _); refine wpList_storeNewRt zeroR q1 rfl _ _ rfl rfl rfl ?_; intro wc1 hx hb hl)
  have Bc1 := Lib.hid (Bb1.out.trans (hb.mono Bb1.out.size))
  have Yc1 := Lib.hid (Yb1.out.below hb)
  have Vc1 := Lib.hid (Vb1.out.below hb)
  have Zc1 := Lib.hid (Zb1.out.trans (hb.mono Zb1.out.size))
  have Mc1 := Lib.hid hx
  clear hb hx hl Bb1 Yb1 Vb1 Zb1
  refine (RB.out _ _ Yc1.out).mono ?_
  rintro e wd1 ⟨rfl, hb⟩
  have Bd1 := Lib.hid (Bc1.out.trans (hb.mono Bc1.out.size))
  have Yd1 := Lib.hid (Yc1.out.below hb)
  have Vd1 := Lib.hid (Vc1.out.below hb)
  have Zd1 := Lib.hid (Zc1.out.trans (hb.mono Zc1.out.size))
  have Md1 := Lib.hid (Mc1.out.below hb)
  clear hb Bc1 Yc1 Vc1 Zc1 Mc1 RB
  go_wp2_with (first | (with_reducible (show wpList _ _ _ (⟨_, Op.store 29 _ _, _, _, _, _⟩ :: _) _ _); refine wpList_storeNewRt zeroR q1 rfl _ _ rfl rfl rfl ?_; intro we1 hxe1 hbe1 hle1) | (with_reducible (show wpList _ _ _ (⟨_, Op.load 29 _, _, _, _, _⟩ :: _) _ _); first | (refine wpList_exec rfl _ (exec_loadRt _ rfl _ rfl (hxe1)) ?_) | (refine wpList_exec rfl _ (exec_loadRt _ rfl _ rfl (Md1.out.below hbe1)) ?_)) | (with_reducible (show wpList _ _ _ (⟨_, Op.binOp BinOp.neq 29 _ _ _, _, _, _, _⟩ :: _) _ _); refine wpList_exec rfl (.bool false) (exec_neRt_same _ _ rfl rfl rfl QW1.out) ?_))
  have Be1 := Lib.hid (Bd1.out.trans (hbe1.mono Bd1.out.size))
  have Ye1 := Lib.hid (Yd1.out.below hbe1)
  have Ve1 := Lib.hid (Vd1.out.below hbe1)
  have ZZ := Lib.hid (Zd1.out.trans (hbe1.mono Zd1.out.size))
  clear hxe1 hbe1 hle1 Bd1 Yd1 Vd1 Zd1 Md1
  rw [rounds_succ]
  go_wp2_with fail
  go_ret
  exact ⟨rfl, Be1.out⟩
set_option maxRecDepth 100000 in
set_option maxHeartbeats 40000000 in
theorem walk_bad (w : World) (r s : Rt) (ir is : Bool) (vb : Value) (lb : List UInt8) (x : Int) (y : UInt8) (hr : r.Wf) (hs : s.Wf) (hb : Byt w vb lb) (hl : lb.length ≤ 5000) (hok : ¬ okR r) :
    Calls Tryd.prog 4 #[.agg (rtV r), .agg (rtV s), .bool ir, .bool is, vb, .int .i64 x, .int .u8 (y.toNat : Int)] w fun e w' => e = .returned (.bool true) ∧ Below w.heap.size w w' := by
  have Z := rtZero
  obtain ⟨A, m, c, rfl, N, hnc, hcm⟩ := hb.form
  obtain ⟨w0, hw0⟩ : ∃ w0, w.alloc (.cells (rtV r) 29) = w0 := ⟨_, rfl⟩
  obtain ⟨w1, hw1⟩ : ∃ w1, w0.alloc (.cells (rtV s) 29) = w1 := ⟨_, rfl⟩
  have hb0 : Below w.heap.size w w0 := hw0 ▸ below_new w _
  have hb1 : Below w0.heap.size w0 w1 := hw1 ▸ below_new w0 _
  have hs0 : w0.heap.size = w.heap.size + 1 := by rw [← hw0]; simp
  have R1 : Hid (RBox w1 w.heap.size r) := (hw0 ▸ RBox.new w r : RBox w0 w.heap.size r).below hb1
  have S1 : Hid (RBox w1 (w.heap.size + 1) s) := hs0 ▸ (hw1 ▸ RBox.new w0 s : RBox w1 w0.heap.size s)
  have B1 : Hid (Below w.heap.size w w1) := hb0.trans (hb1.mono hb0.size)
  have HW0 := Lib.hid hw0
  have HW1 := Lib.hid hw1
  have HV := Lib.hid hb
  have GR := Lib.hid hr
  have GS := Lib.hid hs
  clear hb hw0 hw1 hb0 hb1 hs0 hr hs
  have HL := Lib.hid hl
  have h1 : ¬ (5000 : Int) < (m : Int) := by have := N.out; omega
  clear hl
  go_enter Tryd.func4, Tryd.ntmps4
  go_wp2_with fail
  rw [HW0.out, HW1.out]
  clear HW0 HW1
  refine (lives6_any _).mono ?_
  rintro e w2 ⟨rfl, hb⟩
  have R2 := Lib.hid (R1.out.below hb)
  have S2 := Lib.hid (S1.out.below hb)
  have B2 := Lib.hid (B1.out.trans (hb.mono B1.out.size))
  clear hb R1 S1 B1
  go_wp2_with (with_reducible (show wpList _ _ _ (⟨_, Op.load 29 _, _, _, _, _⟩ :: _) _ _); first | (refine wpList_exec rfl _ (exec_loadRt _ rfl _ rfl (R2.out)) ?_))
  refine (rbytes_bad _ r hok).mono ?_
  rintro e w3 ⟨rfl, hb⟩
  have R3 := Lib.hid (R2.out.below hb)
  have S3 := Lib.hid (S2.out.below hb)
  have B3 := Lib.hid (B2.out.trans (hb.mono B2.out.size))
  clear hb R2 S2 B2
  go_wp2_with (with_reducible (show wpList _ _ _ (⟨_, Op.load 29 _, _, _, _, _⟩ :: _) _ _); first | (refine wpList_exec rfl _ (exec_loadRt _ rfl _ rfl (R3.out)) ?_))
  refine (r6bytes_bad _ r hok).mono ?_
  rintro e w4 ⟨rfl, hb⟩
  have R4 := Lib.hid (R3.out.below hb)
  have S4 := Lib.hid (S3.out.below hb)
  have B4 := Lib.hid (B3.out.trans (hb.mono B3.out.size))
  clear hb R3 S3 B3
  go_wp2_with (with_reducible (show wpList _ _ _ (⟨_, Op.load 29 _, _, _, _, _⟩ :: _) _ _); first | (refine wpList_exec rfl _ (exec_loadRt _ rfl _ rfl (R4.out)) ?_) | (refine wpList_exec rfl _ (exec_loadRt _ rfl _ rfl (S4.out)) ?_))
  have CH := choose_any w4 r s ir is
  have CW := Lib.hid (chooseR_wf ir is GR.out GS.out)
  have CR : Hid (∀ w, Calls Tryd.prog 19 #[.agg (rtV r), .agg (rtV s), .bool ir, .bool is] w (ChoE w (chooseR r s ir is))) := fun w => r6choose_any w r s ir is
  generalize chooseR r s ir is = ch at *
  obtain ⟨cr, cb⟩ := ch
  refine CH.mono ?_
  clear CH
  rintro e w5 ⟨rfl, hb⟩
  have R5 := Lib.hid (R4.out.below hb)
  have S5 := Lib.hid (S4.out.below hb)
  have B5 := Lib.hid (B4.out.trans (hb.mono B4.out.size))
  clear hb R4 S4 B4
  go_wp2_with (first | (with_reducible (show wpList _ _ _ (⟨_, Op.store 29 _ _, _, _, _, _⟩ :: _) _ _); refine wpList_storeNewRt zeroR cr rfl _ _ rfl rfl rfl ?_; intro w6 hx6 hb6 hl6; have P6 := Lib.hid hx6; clear hx6 hl6) | (with_reducible (show wpList _ _ _ (⟨_, Op.load 29 _, _, _, _, _⟩ :: _) _ _); first | (refine wpList_exec rfl _ (exec_loadRt _ rfl _ rfl (R5.out.below hb6)) ?_) | (refine wpList_exec rfl _ (exec_loadRt _ rfl _ rfl (S5.out.below hb6)) ?_)))
  have R6 := Lib.hid (R5.out.below hb6)
  have S6 := Lib.hid (S5.out.below hb6)
  have B6 := Lib.hid (B5.out.trans (hb6.mono B5.out.size))
  clear hb6 R5 S5 B5
  refine (CR.out _).mono ?_
  clear CR
  rintro e w7 ⟨rfl, hb⟩
  have R7 := Lib.hid (R6.out.below hb)
  have S7 := Lib.hid (S6.out.below hb)
  have B7 := Lib.hid (B6.out.trans (hb.mono B6.out.size))
  have P7 := Lib.hid (P6.out.below hb)
  clear hb R6 S6 B6 P6
  go_wp2_with (with_reducible (show wpList _ _ _ (⟨_, Op.store 29 _ _, _, _, _, _⟩ :: _) _ _); refine wpList_storeNewRt zeroR cr rfl _ _ rfl rfl rfl ?_; intro w8 hx8 hb8 hl8)
  have Q8 : Hid (RBox w8.drew w7.heap.size cr) := hx8
  have hbd := hb8.drew
  clear hx8 hl8 hb8
  have R8 := Lib.hid (R7.out.below hbd)
  have S8 := Lib.hid (S7.out.below hbd)
  have P8 := Lib.hid (P7.out.below hbd)
  have B8 := Lib.hid (B7.out.trans (hbd.mono B7.out.size))
  clear hbd R7 S7 P7 B7 
  have CK : Hid (∀ w, Calls Tryd.prog 16 #[.agg (rtV r)] w (IntE w (checkN r))) := fun w => check_any w r
  have CL : Hid (∀ w, Calls Tryd.prog 20 #[.agg (rtV r)] w (IntE w (checkN r))) := fun w => r6check_any w r
  have SK : Hid (∀ w, Calls Tryd.prog 15 #[.agg (rtV r)] w (IntE w (r.e % 2))) := fun w => rslot_any w r
  have SL : Hid (∀ w, Calls Tryd.prog 21 #[.agg (rtV r)] w (IntE w (r.e % 2))) := fun w => r6slot_any w r
  generalize checkN r = kc at *
  generalize r.e % 2 = ks at *
  refine wp_region_R (R := fun x y => Below x.heap.size x y) (by kernel_rfl) (fun _ => Below.refl _ _) (fun h k => h.trans (k.mono h.size)) (by kernel_rfl) (fun d v c a w h => by cases d <;> exact h)
    [(0, false), (1, false), (2, false), (3, false), (4, false), (5, false), (6, false), (7, false), (8, false), (9, false), (10, false), (11, false), (12, false), (13, false), (14, false), (15, false), (16, false), (17, false), (18, false), (19, false), (20, false), (21, false), (23, false), (22, true), (24, true), (25, false), (26, false), (27, false), (28, false), (30, false), (29, true), (31, true), (32, false), (33, false)] rfl (by kernel_rfl) (by kernel_rfl) ?_
  simp only [sel, List.getElem?_toArray, List.getElem?_cons_succ, List.getElem?_cons_zero]
  generalize w8.drew = wd8 at *
  (refine sch_take ?_ rfl ?_ ?_; rotate_left; (focus (intro u hu; go_simp <;> rfl)); simp only [Act.put, List.setIfInBounds_toArray, List.set_cons_zero, List.set_cons_succ])
  refine sch_take (.string ⟨#[]⟩) rfl (fun u hu => by have T := text_of (Byt.nil u); go_simp <;> rfl) ?_
  simp only [Act.put, List.setIfInBounds_toArray, List.set_cons_zero, List.set_cons_succ]
  (refine sch_take ?_ rfl ?_ ?_; rotate_left; (focus (intro u hu; go_simp <;> rfl)); simp only [Act.put, List.setIfInBounds_toArray, List.set_cons_zero, List.set_cons_succ])
  refine sch_take (.string ⟨#[]⟩) rfl (fun u hu => by have T := text_of (Byt.nil u); go_simp <;> rfl) ?_
  simp only [Act.put, List.setIfInBounds_toArray, List.set_cons_zero, List.set_cons_succ]
  refine sch_take (.bool false) rfl (fun u hu => by go_simp <;> rfl) ?_
  simp only [Act.put, List.setIfInBounds_toArray, List.set_cons_zero, List.set_cons_succ]
  iterate 6 (refine sch_take ?_ rfl ?_ ?_; rotate_left; (focus (intro u hu; go_simp <;> rfl)); simp only [Act.put, List.setIfInBounds_toArray, List.set_cons_zero, List.set_cons_succ])
  refine sch_take (.agg (rtV cr)) rfl (fun u hu => exec_loadRt _ rfl _ rfl (P8.out.below hu)) ?_
  simp only [Act.put, List.setIfInBounds_toArray, List.set_cons_zero, List.set_cons_succ]
  refine sch_take (.agg (rtV cr)) rfl (fun u hu => exec_loadRt _ rfl _ rfl (Q8.out.below hu)) ?_
  simp only [Act.put, List.setIfInBounds_toArray, List.set_cons_zero, List.set_cons_succ]
  refine sch_take (.bool false) rfl (fun u hu => exec_neRt_same _ _ rfl rfl rfl CW.out) ?_
  simp only [Act.put, List.setIfInBounds_toArray, List.set_cons_zero, List.set_cons_succ]
  iterate 7 (refine sch_take ?_ rfl ?_ ?_; rotate_left; (focus (intro u hu; go_simp <;> rfl)); simp only [Act.put, List.setIfInBounds_toArray, List.set_cons_zero, List.set_cons_succ])
  refine sch_take (.agg (rtV r)) rfl (fun u hu => exec_loadRt _ rfl _ rfl (R8.out.below hu)) ?_
  simp only [Act.put, List.setIfInBounds_toArray, List.set_cons_zero, List.set_cons_succ]
  refine sch_take (.agg (rtV r)) rfl (fun u hu => exec_loadRt _ rfl _ rfl (R8.out.below hu)) ?_
  simp only [Act.put, List.setIfInBounds_toArray, List.set_cons_zero, List.set_cons_succ]
  refine sch_call rfl ?_
  intro K hK
  go_simp
  refine (CK.out _).mono ?_
  rintro e w9 ⟨rfl, hb⟩
  go_wp2_with fail
  refine hK _ _ hb ?_
  clear hK K
  have R9 := Lib.hid (R8.out.below hb)
  have S9 := Lib.hid (S8.out.below hb)
  have B9 := Lib.hid (B8.out.trans (hb.mono B8.out.size))
  have P9 := Lib.hid (P8.out.below hb)
  have Q9 := Lib.hid (Q8.out.below hb)
  clear hb R8 S8 B8 P8 Q8
  refine sch_call rfl ?_
  intro K hK
  go_simp
  refine (CL.out _).mono ?_
  rintro e w10 ⟨rfl, hb⟩
  go_wp2_with fail
  refine hK _ _ hb ?_
  clear hK K
  have R10 := Lib.hid (R9.out.below hb)
  have S10 := Lib.hid (S9.out.below hb)
  have B10 := Lib.hid (B9.out.trans (hb.mono B9.out.size))
  have P10 := Lib.hid (P9.out.below hb)
  have Q10 := Lib.hid (Q9.out.below hb)
  clear hb R9 S9 B9 P9 Q9
  iterate 3 (refine sch_take ?_ rfl ?_ ?_; rotate_left; (focus (intro u hu; go_simp <;> rfl)); simp only [Act.put, List.setIfInBounds_toArray, List.set_cons_zero, List.set_cons_succ])
  refine sch_take (.agg (rtV r)) rfl (fun u hu => exec_loadRt _ rfl _ rfl (R10.out.below hu)) ?_
  simp only [Act.put, List.setIfInBounds_toArray, List.set_cons_zero, List.set_cons_succ]
  refine sch_take (.agg (rtV r)) rfl (fun u hu => exec_loadRt _ rfl _ rfl (R10.out.below hu)) ?_
  simp only [Act.put, List.setIfInBounds_toArray, List.set_cons_zero, List.set_cons_succ]
  refine sch_call rfl ?_
  intro K hK
  go_simp
  refine (SK.out _).mono ?_
  rintro e w11 ⟨rfl, hb⟩
  go_wp2_with fail
  refine hK _ _ hb ?_
  clear hK K
  have R11 := Lib.hid (R10.out.below hb)
  have S11 := Lib.hid (S10.out.below hb)
  have B11 := Lib.hid (B10.out.trans (hb.mono B10.out.size))
  have P11 := Lib.hid (P10.out.below hb)
  have Q11 := Lib.hid (Q10.out.below hb)
  clear hb R10 S10 B10 P10 Q10
  refine sch_call rfl ?_
  intro K hK
  go_simp
  refine (SL.out _).mono ?_
  rintro e w12 ⟨rfl, hb⟩
  go_wp2_with fail
  refine hK _ _ hb ?_
  clear hK K
  have R12 := Lib.hid (R11.out.below hb)
  have S12 := Lib.hid (S11.out.below hb)
  have B12 := Lib.hid (B11.out.trans (hb.mono B11.out.size))
  have P12 := Lib.hid (P11.out.below hb)
  have Q12 := Lib.hid (Q11.out.below hb)
  clear hb R11 S11 B11 P11 Q11
  iterate 2 (refine sch_take ?_ rfl ?_ ?_; rotate_left; (focus (intro u hu; go_simp <;> rfl)); simp only [Act.put, List.setIfInBounds_toArray, List.set_cons_zero, List.set_cons_succ])
  refine sch_nil ?_
  have BY := B12
  have HSB := Lib.hid (Byt.nil w12)
  clear R12 S12 P12 Q12 B12
  obtain ⟨wz, hwz⟩ : ∃ wz, w12.alloc (.cells #[.slice A m c, .slice none 0 0] 22) = wz := ⟨_, rfl⟩
  have hbz : Below w12.heap.size w12 wz := hwz ▸ below_new w12 _
  have GZ : Hid (wz.heap[w12.heap.size]? = some (.cells #[.slice A m c, .slice none 0 0] 22)) := by rw [Hid, ← hwz]; exact heap_alloc_new w12 _
  have GL : Hid (w12.heap.size < wz.heap.size) := by rw [Hid, ← hwz]; simp
  have Bz := Lib.hid (BY.out.trans (hbz.mono BY.out.size))
  have Yz := Lib.hid (HSB.out.below hbz)
  have Vz := Lib.hid (HV.out.below Bz.out)
  have HWZ := Lib.hid hwz
  have HLY : Hid ((([] : List UInt8)).length ≤ 5000) := by rw [Hid]; simp
  clear hbz hwz
  go_wp2_with fail
  rw [HWZ.out]
  clear HWZ
  generalize w12.heap.size = gz at *
  generalize ([] : List UInt8) = ly at *
  have ZZ : Hid (Below wz.heap.size wz wz) := Below.refl _ _
  refine wp_loop_rounds 3 ?_
  rw [rounds_succ]
  have hc0 : wz.cell? ⟨gz, 0, none⟩ = some (.slice A m c) := by rw [ZZ.out.cell (p := ⟨gz, 0, none⟩) GL.out, cell_of_row _ _ _ _ _ _ GZ.out]; rfl
  go_wp2_with fail
  refine (kitown_any _ _ lb Vz.out (by have := HL.out; omega)).mono ?_
  rintro e wa0 ⟨va0, rfl, hown, hb⟩
  have OWa0 := Lib.hid hown.byt
  obtain ⟨Aa0, na0, ca0, rfl, Na0, hna0, hma0⟩ := hown.byt.form
  have Ba0 := Lib.hid (Bz.out.trans (hb.mono Bz.out.size))
  have Ya0 := Lib.hid (Yz.out.below hb)
  have Va0 := Lib.hid (Vz.out.below hb)
  have Za0 := Lib.hid (ZZ.out.trans (hb.mono ZZ.out.size))
  clear hown hb hc0 Bz Yz Vz ZZ
  go_wp2_with fail
  have QW0 := Lib.hid (readQ_wf lb)
  have QL0 := Lib.hid (readQ_le lb)
  have RA := rread_any _ _ _ OWa0.out
  have RB : Hid (∀ w v, Byt w v lb → Calls Tryd.prog 24 #[v] w (RtN w (readQ lb).1 (readQ lb).2)) := fun w v h => r6read_any w v _ h
  generalize readQ lb = rq0 at *
  obtain ⟨q0, k0⟩ := rq0
  refine RA.mono ?_
  clear RA
  rintro e wb0 ⟨rfl, hb⟩
  have Bb0 := Lib.hid (Ba0.out.trans (hb.mono Ba0.out.size))
  have Yb0 := Lib.hid (Ya0.out.below hb)
  have Vb0 := Lib.hid (Va0.out.below hb)
  have Zb0 := Lib.hid (Za0.out.trans (hb.mono Za0.out.size))
  clear hb Ba0 Ya0 Va0 Za0 OWa0
  go_wp2_with (with_reducible (show wpList _ _ _ (⟨_, Op.store 29 _ _, _, _, _, _⟩ :: _) _ _); refine wpList_storeNewRt zeroR q0 rfl _ _ rfl rfl rfl ?_; intro wc0 hx hb hl)
  have Bc0 := Lib.hid (Bb0.out.trans (hb.mono Bb0.out.size))
  have Yc0 := Lib.hid (Yb0.out.below hb)
  have Vc0 := Lib.hid (Vb0.out.below hb)
  have Zc0 := Lib.hid (Zb0.out.trans (hb.mono Zb0.out.size))
  have Mc0 := Lib.hid hx
  clear hb hx hl Bb0 Yb0 Vb0 Zb0
  refine (RB.out _ _ Vc0.out).mono ?_
  rintro e wd0 ⟨rfl, hb⟩
  have Bd0 := Lib.hid (Bc0.out.trans (hb.mono Bc0.out.size))
  have Yd0 := Lib.hid (Yc0.out.below hb)
  have Vd0 := Lib.hid (Vc0.out.below hb)
  have Zd0 := Lib.hid (Zc0.out.trans (hb.mono Zc0.out.size))
  have Md0 := Lib.hid (Mc0.out.below hb)
  clear hb Bc0 Yc0 Vc0 Zc0 Mc0 RB
  go_wp2_with (first | (with_reducible (show wpList _ _ _ (⟨_, Op.store 29 _ _, _, _, _, _⟩ :: _) _ _); refine wpList_storeNewRt zeroR q0 rfl _ _ rfl rfl rfl ?_; intro we0 hxe0 hbe0 hle0) | (with_reducible (show wpList _ _ _ (⟨_, Op.load 29 _, _, _, _, _⟩ :: _) _ _); first | (refine wpList_exec rfl _ (exec_loadRt _ rfl _ rfl (hxe0)) ?_) | (refine wpList_exec rfl _ (exec_loadRt _ rfl _ rfl (Md0.out.below hbe0)) ?_)) | (with_reducible (show wpList _ _ _ (⟨_, Op.binOp BinOp.neq 29 _ _ _, _, _, _, _⟩ :: _) _ _); refine wpList_exec rfl (.bool false) (exec_neRt_same _ _ rfl rfl rfl QW0.out) ?_))
  have Be0 := Lib.hid (Bd0.out.trans (hbe0.mono Bd0.out.size))
  have Ye0 := Lib.hid (Yd0.out.below hbe0)
  have Ve0 := Lib.hid (Vd0.out.below hbe0)
  have ZZ := Lib.hid (Zd0.out.trans (hbe0.mono Zd0.out.size))
  clear hxe0 hbe0 hle0 Bd0 Yd0 Vd0 Zd0 Md0
  rw [rounds_succ]
  have hc1 : we0.cell? ⟨gz, 1, none⟩ = some (.slice none 0 0) := by rw [ZZ.out.cell (p := ⟨gz, 1, none⟩) GL.out, cell_of_row _ _ _ _ _ _ GZ.out]; rfl
  go_wp2_with fail
  refine (kitown_any _ _ ly Ye0.out (by have := HLY.out; omega)).mono ?_
  rintro e wa1 ⟨va1, rfl, hown, hb⟩
  have OWa1 := Lib.hid hown.byt
  obtain ⟨Aa1, na1, ca1, rfl, Na1, hna1, hma1⟩ := hown.byt.form
  have Ba1 := Lib.hid (Be0.out.trans (hb.mono Be0.out.size))
  have Ya1 := Lib.hid (Ye0.out.below hb)
  have Va1 := Lib.hid (Ve0.out.below hb)
  have Za1 := Lib.hid (ZZ.out.trans (hb.mono ZZ.out.size))
  clear hown hb hc1 Be0 Ye0 Ve0 ZZ
  go_wp2_with fail
  have QW1 := Lib.hid (readQ_wf ly)
  have QL1 := Lib.hid (readQ_le ly)
  have RA := rread_any _ _ _ OWa1.out
  have RB : Hid (∀ w v, Byt w v ly → Calls Tryd.prog 24 #[v] w (RtN w (readQ ly).1 (readQ ly).2)) := fun w v h => r6read_any w v _ h
  generalize readQ ly = rq1 at *
  obtain ⟨q1, k1⟩ := rq1
  refine RA.mono ?_
  clear RA
  rintro e wb1 ⟨rfl, hb⟩
  have Bb1 := Lib.hid (Ba1.out.trans (hb.mono Ba1.out.size))
  have Yb1 := Lib.hid (Ya1.out.below hb)
  have Vb1 := Lib.hid (Va1.out.below hb)
  have Zb1 := Lib.hid (Za1.out.trans (hb.mono Za1.out.size))
  clear hb Ba1 Ya1 Va1 Za1 OWa1
  go_wp2_with (with_reducible (show wpList _ _ _ (⟨_, Op.store 29 _ _, _, _, _, _⟩ :: _) _ _); refine wpList_storeNewRt zeroR q1 rfl _ _ rfl rfl rfl ?_; intro wc1 hx hb hl)
  have Bc1 := Lib.hid (Bb1.out.trans (hb.mono Bb1.out.size))
  have Yc1 := Lib.hid (Yb1.out.below hb)
  have Vc1 := Lib.hid (Vb1.out.below hb)
  have Zc1 := Lib.hid (Zb1.out.trans (hb.mono Zb1.out.size))
  have Mc1 := Lib.hid hx
  clear hb hx hl Bb1 Yb1 Vb1 Zb1
  refine (RB.out _ _ Yc1.out).mono ?_
  rintro e wd1 ⟨rfl, hb⟩
  have Bd1 := Lib.hid (Bc1.out.trans (hb.mono Bc1.out.size))
  have Yd1 := Lib.hid (Yc1.out.below hb)
  have Vd1 := Lib.hid (Vc1.out.below hb)
  have Zd1 := Lib.hid (Zc1.out.trans (hb.mono Zc1.out.size))
  have Md1 := Lib.hid (Mc1.out.below hb)
  clear hb Bc1 Yc1 Vc1 Zc1 Mc1 RB
  go_wp2_with (first | (with_reducible (show wpList _ _ _ (⟨_, Op.store 29 _ _, _, _, _, _⟩ :: _) _ _); refine wpList_storeNewRt zeroR q1 rfl _ _ rfl rfl rfl ?_; intro we1 hxe1 hbe1 hle1) | (with_reducible (show wpList _ _ _ (⟨_, Op.load 29 _, _, _, _, _⟩ :: _) _ _); first | (refine wpList_exec rfl _ (exec_loadRt _ rfl _ rfl (hxe1)) ?_) | (refine wpList_exec rfl _ (exec_loadRt _ rfl _ rfl (Md1.out.below hbe1)) ?_)) | (with_reducible (show wpList _ _ _ (⟨_, Op.binOp BinOp.neq 29 _ _ _, _, _, _, _⟩ :: _) _ _); refine wpList_exec rfl (.bool false) (exec_neRt_same _ _ rfl rfl rfl QW1.out) ?_))
  have Be1 := Lib.hid (Bd1.out.trans (hbe1.mono Bd1.out.size))
  have Ye1 := Lib.hid (Yd1.out.below hbe1)
  have Ve1 := Lib.hid (Vd1.out.below hbe1)
  have ZZ := Lib.hid (Zd1.out.trans (hbe1.mono Zd1.out.size))
  clear hxe1 hbe1 hle1 Bd1 Yd1 Vd1 Zd1 Md1
  rw [rounds_succ]
  go_wp2_with fail
  go_ret
  exact ⟨rfl, Be1.out⟩

theorem walk (w : World) (r s : Rt) (ir is : Bool) (vb : Value) (lb : List UInt8) (x : Int) (y : UInt8) (hr : r.Wf) (hs : s.Wf) (hb : Byt w vb lb) (_hx : -9223372036854775808 ≤ x ∧ x ≤ 9223372036854775807) :
    Calls Tryd.prog 4 #[.agg (rtV r), .agg (rtV s), .bool ir, .bool is, vb, .int .i64 x, .int .u8 (y.toNat : Int)] w fun e w' => e = .returned (.bool true) ∧ Below w.heap.size w w' := by
  by_cases h : 5000 < lb.length
  · exact walk_great w r s ir is vb lb x y hr hs hb h
  · by_cases hok : okR r
    · exact walk_ok w r s ir is vb lb x y hr hs hb (by omega) hok
    · exact walk_bad w r s ir is vb lb x y hr hs hb (by omega) hok

set_option maxRecDepth 100000 in
theorem lifted (os : Os) (started : os.Started) (H : Type) (enc : TypeId × Value → H) :
    ReturnsInHanded {} Tryd.checked os 4 .any (fun w args => (Rows.rootCallsSpec.pre enc Tryd.prog Tryd.f4 Rows.rootCallsRow.domain false w args ∧ laidMetH Tryd.prog Rows.rootCallsRow.laid w) ∧ sizedMet enc Tryd.prog Tryd.f4 (OpenSpec.ofChange Rows.rootCallsSpec) false w args) (Rows.rootCallsSpec.post enc Tryd.prog Tryd.f4 false true false false) := by
  refine returnsInHanded_of_change_and (C := Tryd.checked) (X := fun w _ => laidMetH Tryd.prog Rows.rootCallsRow.laid w) (fun _ _ _ hh h => h.of_heap hh) ownKnobs started (by kernel_rfl) Tryd.func4
    (ChangeSpec.witness_shaped (enc := enc) (C := Tryd.checked) (os := os) (X := fun w _ => laidMetH Tryd.prog Rows.rootCallsRow.laid w) false (World.laidAll Tryd.prog os Rows.rootCallsRow.laid) #[.agg (rtV zeroR), .agg (rtV zeroR), .bool false, .bool false, .slice none 0 0, .int .i64 0, .int .u8 0] 8 (World.laidAll_os _ _ _)
      (World.shaped_of_ZipB (by kernel_rfl) (by kernel_rfl)) (by kernel_rfl) (by kernel_rfl) (by kernel_rfl)
      (by rw [MakeChecks.laidMetH_plain _ _ _ (by kernel_rfl)]; exact laidMet_laidAll _ (by kernel_rfl) (by kernel_rfl))) ?_
  intro W base args ds gs before hval0 hW hcnd _ _ _
  have hval : ∀ (j : Nat) t v, Tryd.f4.params[j]? = some t → args[j]? = some v → Value.okWide Tryd.prog W .any base t v := hval0
  have hW' := hW
  obtain ⟨p, q, hA0, hV, rfl, hfz, hnd⟩ := hW
  have hA : DataW.TrodAll enc Tryd.prog W 0 (fun _ => true) true Tryd.f4.params.toList args.toList ds p := hA0
  rw [Tryd.params4] at hA hval
  obtain ⟨v0, vs0, d0, ds0, p0, q0, hargs, rfl, rfl, h0, r0⟩ := trodAll_cons hA
  obtain ⟨v1, vs1, d1, ds1, p1, q1, rfl, rfl, rfl, h1, r1⟩ := trodAll_cons r0
  obtain ⟨v2, vs2, d2, ds2, p2, q2, rfl, rfl, rfl, h2, r2⟩ := trodAll_cons r1
  obtain ⟨v3, vs3, d3, ds3, p3, q3, rfl, rfl, rfl, h3, r3⟩ := trodAll_cons r2
  obtain ⟨v4, vs4, d4, ds4, p4, q4, rfl, rfl, rfl, h4, r4⟩ := trodAll_cons r3
  obtain ⟨v5, vs5, d5, ds5, p5, q5, rfl, rfl, rfl, h5, r5⟩ := trodAll_cons r4
  obtain ⟨v6, vs6, d6, ds6, p6, q6, rfl, rfl, rfl, h6, r6⟩ := trodAll_cons r5
  obtain ⟨rfl, rfl, rfl⟩ := trodAll_nil r6
  obtain rfl : args = #[v0, v1, v2, v3, v4, v5, v6] := by cases args; simp_all
  obtain ⟨rfl, rfl⟩ := trodVars_none hV
  have k0 := h0
  have lt0 : ∀ x ∈ p0, x.block < W.heap.size := by obtain ⟨m, hm⟩ := k0; exact DataW.trod_lt m _ _ _ hm
  obtain ⟨rt0, rfl, b0⟩ := open_root (hval 0 29 v0 rfl rfl) h0
  have k1 := h1
  have lt1 : ∀ x ∈ p1, x.block < W.heap.size := by obtain ⟨m, hm⟩ := k1; exact DataW.trod_lt m _ _ _ hm
  obtain ⟨rt1, rfl, b1⟩ := open_root (hval 1 29 v1 rfl rfl) h1
  obtain ⟨a2, rfl, rfl, rfl⟩ := open_bool Tryd.underlying4 (hval 2 4 v2 rfl rfl) h2
  obtain ⟨a3, rfl, rfl, rfl⟩ := open_bool Tryd.underlying4 (hval 3 4 v3 rfl rfl) h3
  have k4 := h4
  have lt4 : ∀ x ∈ p4, x.block < W.heap.size := by obtain ⟨m, hm⟩ := k4; exact DataW.trod_lt m _ _ _ hm
  obtain ⟨l4, b4⟩ := open_bytes (hval 4 22 v4 rfl rfl) h4
  obtain ⟨a5, rfl, rfl, rfl, w5⟩ := open_int Tryd.underlying3 (hval 5 3 v5 rfl rfl) h5
  have b5 := open_i64 w5
  obtain ⟨a6, rfl, rfl, rfl, w6⟩ := open_int Tryd.underlying5 (hval 6 5 v6 rfl rfl) h6
  obtain ⟨n6, rfl⟩ := open_u8 w6
  clear hA0 hval0
  refine (walk W rt0 rt1 a2 a3 v4 l4 a5 n6 b0 b1 b4 b5).mono fun e W' ⟨he, bel⟩ => ?_
  subst he
  exact ⟨_, rfl, _, _, _, [], _, [], hW', trodAll_mk1 (shut_bool Tryd.underlying4 _), (trodAll_cons_mk (Below.trod laidOuts (by kernel_rfl) (of_decide_eq_true (by kernel_rfl)) k0 bel lt0) (trodAll_cons_mk (Below.trod laidOuts (by kernel_rfl) (of_decide_eq_true (by kernel_rfl)) k1 bel lt1) (trodAll_cons_mk (shut_bool Tryd.underlying4 _) (trodAll_cons_mk (shut_bool Tryd.underlying4 _) (trodAll_cons_mk (Below.trod laidOuts (by kernel_rfl) (of_decide_eq_true (by kernel_rfl)) k4 bel lt4) (trodAll_cons_mk (shut_int Tryd.underlying3 w5) (trodAll_cons_mk (shut_int Tryd.underlying5 w6) trodAll_mk0))))))), rfl, bel.frame _, fun h => by cases h⟩

theorem over : Rows.rootCallsRow.holds Tryd.pinned (OpenSpec.ofChange Rows.rootCallsSpec) :=
  OpenClaim.holds_of_wide 4 Tryd.f4 rfl rfl rfl rfl rfl rfl rfl ⟨rfl, rfl, rfl, rfl, rfl⟩ rfl rfl rfl rfl rfl (by kernel_rfl) Tryd.func4 (by kernel_rfl)
    (of_decide_eq_true (by kernel_rfl)) (by unfold Func.isWrapper; first | (rw [if_pos (by decide +kernel)]; kernel_rfl) | (rw [if_neg (by decide +kernel)]; exact ⟨rfl, rfl⟩))
    (fun os started H enc _ => lifted os started H enc)

theorem proved : Rows.RootCallsCardSaid :=
  Claim7.holds_tied_plain_at .later [] [.data, .pinned] true Rows.rootCallsCard.stood.harness false over (fun _ h => by cases h) (by kernel_rfl) (fun _ h => by cases h) rootCalls_row_tie rfl ⟨rfl, rfl⟩ (by kernel_rfl) rfl
    (fun f fn hf hfn => by
      obtain rfl : f = 4 := Option.some.inj ((show Tryd.prog.funcNamed "tallyman/tallymanlaw06.RootCalls" = some 4 by kernel_rfl).symm.trans hf) |>.symm
      obtain rfl : fn = Tryd.f4 := (Option.some.inj (Tryd.func4.symm.trans hfn)).symm
      exact ⟨by kernel_rfl, fun j t ht => by
        rw [Tryd.params4] at ht
        have hm : t ∈ [29, 29, 4, 4, 22, 3, 5] := by simpa using Array.mem_of_getElem? ht
        have hall : ([29, 29, 4, 4, 22, 3, 5].all fun u => !Tryd.prog.wantsStandIn u) = true := by kernel_rfl
        exact (show Tryd.prog.wantsStandIn t = false by simpa using List.all_eq_true.1 hall t hm)⟩)
    (by kernel_rfl)
#print axioms proved
end Go.Proofs.YteeljcnmgfjcmaaDoor.rootCalls
