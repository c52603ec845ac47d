/-
  The statement RootChoose: of two roots that are there the greater Epoch counts, whatever the order; of one alone that; of none nothing. Conditions: none.
-/
import Derived.Test.YteeljcnmgfjcmaaDoorMg9
namespace Go.Proofs.YteeljcnmgfjcmaaDoor.rootChoose
open Go.ChangeShapes Go.WideShapes Go.ChangeAt Go.RowKit Go.Maps
set_option maxRecDepth 100000
set_option linter.unusedVariables false

theorem r_and1 (x : Nat) (hx : x < 18446744073709551616) : bits .and .u64 (x : Int) 1 = ((x % 2 : Nat) : Int) := by
  have h := u64_and_nat x 1 hx (by omega)
  rw [show (x &&& 1) = x % 2 from by rw [show 1 = 2 ^ 1 - 1 from rfl, Nat.and_two_pow_sub_one_eq_mod]] at h
  exact h
theorem wpList_exec {ops : Array Oper} {rest : List Oper} {o : Oper} {a : Act} {w : World} {Q : Exit → Act → World → Prop} (hw : Region.wanted o (yielded ops a.tmps) = true) (v : Value) (hv : (execOp a.eval o).run Tryd.prog w = .ok (.value v) w)
    (h : wpList Tryd.prog ops Q rest (a.put o.dst v) w) : wpList Tryd.prog ops Q (o :: rest) a w :=
  BigFrame.wpList_want hw fun K hK => by
    unfold Oper.wp
    rw [hv, Oper.upon_value]
    exact hK _ _ h
set_option maxRecDepth 100000 in
set_option maxHeartbeats 40000000 in
theorem walk_eq (w : World) (a b : Rt) (ha : a.Wf) (hb : b.Wf) (he : a.e = b.e) :
    Calls Tryd.prog 7 #[.agg (rtV a), .agg (rtV b)] w fun e w' => e = .returned (.bool true) ∧ Below w.heap.size w w' := by
  have Z := rtZero
  have GA := Lib.hid ha
  have GB := Lib.hid hb
  clear ha hb
  obtain ⟨w0, hw0⟩ : ∃ w0, w.alloc (.cells (rtV a) 29) = w0 := ⟨_, rfl⟩
  obtain ⟨w1, hw1⟩ : ∃ w1, w0.alloc (.cells (rtV b) 29) = w1 := ⟨_, rfl⟩
  have hb0 : Below w.heap.size w w0 := hw0 ▸ below_new w _
  have hb1 : Below w0.heap.size w0 w1 := hw1 ▸ below_new w0 _
  have hs0 : w0.heap.size = w.heap.size + 1 := by rw [← hw0]; simp
  have HA1 : Hid (RBox w1 w.heap.size a) := (hw0 ▸ RBox.new w a : RBox w0 w.heap.size a).below hb1
  have HB1 : Hid (RBox w1 (w.heap.size + 1) b) := hs0 ▸ (hw1 ▸ RBox.new w0 b : RBox w1 w0.heap.size b)
  have HBB1 : Hid (Below w.heap.size w w1) := hb0.trans (hb1.mono hb0.size)
  have HW0 := Lib.hid hw0
  have HW1 := Lib.hid hw1
  have HS0 := Lib.hid hs0
  clear hw0 hw1 hb0 hb1 hs0
  have he1 : ((a.e : Int) == (b.e : Int)) = true := by rw [he]; simp
  have C1 : Hid (∀ w, Calls Tryd.prog 18 #[.agg (rtV a), .agg (rtV b), .bool true, .bool true] w (ChoE w (a, true))) := fun w => (show chooseR a b true true = (a, true) from by unfold chooseR; simp <;> omega) ▸ choose_any w a b true true
  clear he
  go_enter Tryd.func7, Tryd.ntmps7
  go_wp2_with fail
  rw [HW0.out, HW1.out]
  refine (lives6_any _).mono ?_
  rintro e w2 ⟨rfl, hb⟩
  have HA2 := Lib.hid (HA1.out.below hb)
  have HB2 := Lib.hid (HB1.out.below hb)
  have HBB2 := Lib.hid (HBB1.out.trans (hb.mono HBB1.out.size))
  clear HA1 HB1 HBB1
  clear hb HW0 HW1 HS0
  have ca := HA2.out.cells.1
  have cb := HB2.out.cells.1
  go_wp2_with ((with_reducible (show wpList _ _ _ (⟨_, Op.load 29 _, _, _, _, _⟩ :: _) _ _); first | (refine wpList_exec rfl _ (exec_loadRt _ rfl _ rfl HA2.out) ?_) | (refine wpList_exec rfl _ (exec_loadRt _ rfl _ rfl HB2.out) ?_)))
  clear ca cb he1
  refine (C1.out _).mono ?_
  rintro e w3 ⟨rfl, hb⟩
  have HA3 := Lib.hid (HA2.out.below hb)
  have HB3 := Lib.hid (HB2.out.below hb)
  have HBB3 := Lib.hid (HBB2.out.trans (hb.mono HBB2.out.size))
  clear HA2 HB2 HBB2
  clear hb
  go_wp2_with (first | (with_reducible (show wpList _ _ _ (⟨_, Op.store 29 _ _, _, _, _, _⟩ :: _) _ _); refine wpList_storeNewRt zeroR a rfl _ _ rfl rfl rfl ?_; intro w4 hx hb hlt) | (with_reducible (show wpList _ _ _ (⟨_, Op.load 29 _, _, _, _, _⟩ :: _) _ _); first | (refine wpList_exec rfl _ (exec_loadRt _ rfl _ rfl (hx)) ?_) | (refine wpList_exec rfl _ (exec_loadRt _ rfl _ rfl (HA3.out.below hb)) ?_)) | (with_reducible (show wpList _ _ _ (⟨_, Op.binOp BinOp.eql 29 _ _ _, _, _, _, _⟩ :: _) _ _); refine wpList_exec rfl (.bool true) (exec_eqRt_same _ _ rfl rfl rfl GA.out) ?_))
  go_ret
  exact ⟨rfl, HBB3.out.trans (hb.mono HBB3.out.size)⟩
set_option maxRecDepth 100000 in
set_option maxHeartbeats 40000000 in
theorem walk_gt (w : World) (a b : Rt) (ha : a.Wf) (hb : b.Wf) (hlt : b.e < a.e) :
    Calls Tryd.prog 7 #[.agg (rtV a), .agg (rtV b)] w fun e w' => e = .returned (.bool true) ∧ Below w.heap.size w w' := by
  have Z := rtZero
  have GA := Lib.hid ha
  have GB := Lib.hid hb
  clear ha hb
  obtain ⟨w0, hw0⟩ : ∃ w0, w.alloc (.cells (rtV a) 29) = w0 := ⟨_, rfl⟩
  obtain ⟨w1, hw1⟩ : ∃ w1, w0.alloc (.cells (rtV b) 29) = w1 := ⟨_, rfl⟩
  have hb0 : Below w.heap.size w w0 := hw0 ▸ below_new w _
  have hb1 : Below w0.heap.size w0 w1 := hw1 ▸ below_new w0 _
  have hs0 : w0.heap.size = w.heap.size + 1 := by rw [← hw0]; simp
  have HA1 : Hid (RBox w1 w.heap.size a) := (hw0 ▸ RBox.new w a : RBox w0 w.heap.size a).below hb1
  have HB1 : Hid (RBox w1 (w.heap.size + 1) b) := hs0 ▸ (hw1 ▸ RBox.new w0 b : RBox w1 w0.heap.size b)
  have HBB1 : Hid (Below w.heap.size w w1) := hb0.trans (hb1.mono hb0.size)
  have HW0 := Lib.hid hw0
  have HW1 := Lib.hid hw1
  have HS0 := Lib.hid hs0
  clear hw0 hw1 hb0 hb1 hs0
  have he1 : ((a.e : Int) == (b.e : Int)) = false := by rw [beq_eq_false_iff_ne]; omega
  have hgt : ¬ (a.e : Int) < (b.e : Int) := by omega
  have C1 : Hid (∀ w, Calls Tryd.prog 18 #[.agg (rtV a), .agg (rtV b), .bool true, .bool true] w (ChoE w (a, true))) := fun w => (show chooseR a b true true = (a, true) from by unfold chooseR; simp <;> omega) ▸ choose_any w a b true true
  have C2 : Hid (∀ w, Calls Tryd.prog 18 #[.agg (rtV b), .agg (rtV a), .bool true, .bool true] w (ChoE w (a, true))) := fun w => (show chooseR b a true true = (a, true) from by unfold chooseR; simp <;> omega) ▸ choose_any w b a true true
  have C3 : Hid (∀ w, Calls Tryd.prog 18 #[.agg (rtV a), .agg (rtV b), .bool true, .bool false] w (ChoE w (a, true))) := fun w => (show chooseR a b true false = (a, true) from by unfold chooseR; simp <;> omega) ▸ choose_any w a b true false
  have C4 : Hid (∀ w, Calls Tryd.prog 18 #[.agg (rtV a), .agg (rtV b), .bool false, .bool true] w (ChoE w (b, true))) := fun w => (show chooseR a b false true = (b, true) from by unfold chooseR; simp <;> omega) ▸ choose_any w a b false true
  have C5 : Hid (∀ w, Calls Tryd.prog 18 #[.agg (rtV a), .agg (rtV b), .bool false, .bool false] w (ChoE w (zeroR, false))) := fun w => (show chooseR a b false false = (zeroR, false) from by unfold chooseR; simp <;> omega) ▸ choose_any w a b false false
  have HE := Lib.hid he1
  have HGT := Lib.hid hgt
  clear hlt hgt
  go_enter Tryd.func7, Tryd.ntmps7
  go_wp2_with fail
  rw [HW0.out, HW1.out]
  refine (lives6_any _).mono ?_
  rintro e w2 ⟨rfl, hb⟩
  have HA2 := Lib.hid (HA1.out.below hb)
  have HB2 := Lib.hid (HB1.out.below hb)
  have HBB2 := Lib.hid (HBB1.out.trans (hb.mono HBB1.out.size))
  clear HA1 HB1 HBB1
  clear hb HW0 HW1 HS0
  have ca := HA2.out.cells.1
  have cb := HB2.out.cells.1
  go_wp2_with ((with_reducible (show wpList _ _ _ (⟨_, Op.load 29 _, _, _, _, _⟩ :: _) _ _); first | (refine wpList_exec rfl _ (exec_loadRt _ rfl _ rfl HA2.out) ?_) | (refine wpList_exec rfl _ (exec_loadRt _ rfl _ rfl HB2.out) ?_)))
  clear ca cb
  refine (C1.out _).mono ?_
  rintro e w3 ⟨rfl, hb⟩
  have HA3 := Lib.hid (HA2.out.below hb)
  have HB3 := Lib.hid (HB2.out.below hb)
  have HBB3 := Lib.hid (HBB2.out.trans (hb.mono HBB2.out.size))
  clear HA2 HB2 HBB2
  clear hb
  go_wp2_with (first | (with_reducible (show wpList _ _ _ (⟨_, Op.store 29 _ _, _, _, _, _⟩ :: _) _ _); refine wpList_storeNewRt zeroR a rfl _ _ rfl rfl rfl ?_; intro w4 hx hb hlt) | (with_reducible (show wpList _ _ _ (⟨_, Op.load 29 _, _, _, _, _⟩ :: _) _ _); first | (refine wpList_exec rfl _ (exec_loadRt _ rfl _ rfl (HA3.out.below hb)) ?_) | (refine wpList_exec rfl _ (exec_loadRt _ rfl _ rfl (HB3.out.below hb)) ?_)))
  have HA4 := Lib.hid (HA3.out.below hb)
  have HB4 := Lib.hid (HB3.out.below hb)
  have HBB4 := Lib.hid (HBB3.out.trans (hb.mono HBB3.out.size))
  have HX4 := Lib.hid (hx)
  clear HA3 HB3 HBB3
  clear hx hb hlt
  clear he1
  refine (C2.out _).mono ?_
  rintro e w5 ⟨rfl, hb⟩
  have HA5 := Lib.hid (HA4.out.below hb)
  have HB5 := Lib.hid (HB4.out.below hb)
  have HX5 := Lib.hid (HX4.out.below hb)
  have HBB5 := Lib.hid (HBB4.out.trans (hb.mono HBB4.out.size))
  clear HA4 HB4 HX4 HBB4
  clear hb
  go_wp2_with (first | (with_reducible (show wpList _ _ _ (⟨_, Op.store 29 _ _, _, _, _, _⟩ :: _) _ _); refine wpList_storeNewRt zeroR a rfl _ _ rfl rfl rfl ?_; intro w6 hx hb hlt) | (with_reducible (show wpList _ _ _ (⟨_, Op.load 29 _, _, _, _, _⟩ :: _) _ _); first | (refine wpList_exec rfl _ (exec_loadRt _ rfl _ rfl (HA5.out.below hb)) ?_) | (refine wpList_exec rfl _ (exec_loadRt _ rfl _ rfl (HB5.out.below hb)) ?_)))
  have HA6 := Lib.hid (HA5.out.below hb)
  have HB6 := Lib.hid (HB5.out.below hb)
  have HX6 := Lib.hid (HX5.out.below hb)
  have HBB6 := Lib.hid (HBB5.out.trans (hb.mono HBB5.out.size))
  have HY6 := Lib.hid (hx)
  clear HA5 HB5 HX5 HBB5
  clear hx hb hlt
  refine (C3.out _).mono ?_
  rintro e w7 ⟨rfl, hb⟩
  have HA7 := Lib.hid (HA6.out.below hb)
  have HB7 := Lib.hid (HB6.out.below hb)
  have HX7 := Lib.hid (HX6.out.below hb)
  have HY7 := Lib.hid (HY6.out.below hb)
  have HBB7 := Lib.hid (HBB6.out.trans (hb.mono HBB6.out.size))
  clear HA6 HB6 HX6 HY6 HBB6
  clear hb
  go_wp2_with (first | (with_reducible (show wpList _ _ _ (⟨_, Op.store 29 _ _, _, _, _, _⟩ :: _) _ _); refine wpList_storeNewRt zeroR a rfl _ _ rfl rfl rfl ?_; intro w8 hx hb hlt) | (with_reducible (show wpList _ _ _ (⟨_, Op.load 29 _, _, _, _, _⟩ :: _) _ _); first | (refine wpList_exec rfl _ (exec_loadRt _ rfl _ rfl (HA7.out.below hb)) ?_) | (refine wpList_exec rfl _ (exec_loadRt _ rfl _ rfl (HB7.out.below hb)) ?_)))
  have HA8 := Lib.hid (HA7.out.below hb)
  have HB8 := Lib.hid (HB7.out.below hb)
  have HX8 := Lib.hid (HX7.out.below hb)
  have HY8 := Lib.hid (HY7.out.below hb)
  have HBB8 := Lib.hid (HBB7.out.trans (hb.mono HBB7.out.size))
  have HU8 := Lib.hid (hx)
  clear HA7 HB7 HX7 HY7 HBB7
  clear hx hb hlt
  refine (C4.out _).mono ?_
  rintro e w9 ⟨rfl, hb⟩
  have HA9 := Lib.hid (HA8.out.below hb)
  have HB9 := Lib.hid (HB8.out.below hb)
  have HX9 := Lib.hid (HX8.out.below hb)
  have HY9 := Lib.hid (HY8.out.below hb)
  have HU9 := Lib.hid (HU8.out.below hb)
  have HBB9 := Lib.hid (HBB8.out.trans (hb.mono HBB8.out.size))
  clear HA8 HB8 HX8 HY8 HU8 HBB8
  clear hb
  go_wp2_with (first | (with_reducible (show wpList _ _ _ (⟨_, Op.store 29 _ _, _, _, _, _⟩ :: _) _ _); refine wpList_storeNewRt zeroR b rfl _ _ rfl rfl rfl ?_; intro w10 hx hb hlt) | (with_reducible (show wpList _ _ _ (⟨_, Op.load 29 _, _, _, _, _⟩ :: _) _ _); first | (refine wpList_exec rfl _ (exec_loadRt _ rfl _ rfl (HA9.out.below hb)) ?_) | (refine wpList_exec rfl _ (exec_loadRt _ rfl _ rfl (HB9.out.below hb)) ?_)))
  have HA10 := Lib.hid (HA9.out.below hb)
  have HB10 := Lib.hid (HB9.out.below hb)
  have HX10 := Lib.hid (HX9.out.below hb)
  have HY10 := Lib.hid (HY9.out.below hb)
  have HU10 := Lib.hid (HU9.out.below hb)
  have HBB10 := Lib.hid (HBB9.out.trans (hb.mono HBB9.out.size))
  have HV10 := Lib.hid (hx)
  clear HA9 HB9 HX9 HY9 HU9 HBB9
  clear hx hb hlt
  refine (C5.out _).mono ?_
  rintro e w11 ⟨rfl, hb⟩
  have HA11 := Lib.hid (HA10.out.below hb)
  have HB11 := Lib.hid (HB10.out.below hb)
  have HX11 := Lib.hid (HX10.out.below hb)
  have HY11 := Lib.hid (HY10.out.below hb)
  have HU11 := Lib.hid (HU10.out.below hb)
  have HV11 := Lib.hid (HV10.out.below hb)
  have HBB11 := Lib.hid (HBB10.out.trans (hb.mono HBB10.out.size))
  clear HA10 HB10 HX10 HY10 HU10 HV10 HBB10
  clear hb
  have hgt := HGT.out
  go_wp2_with (first | (with_reducible (show wpList _ _ _ (⟨_, Op.store 29 _ _, _, _, _, _⟩ :: _) _ _); refine wpList_storeNewRt zeroR zeroR rfl _ _ rfl rfl rfl ?_; intro w12 hx hb hlt) | (with_reducible (show wpList _ _ _ (⟨_, Op.store 29 _ _, _, _, _, _⟩ :: _) _ _); refine wpList_storeNewRt zeroR a rfl _ _ rfl rfl rfl ?_; intro w13 hx2 hb2 hlt2; have ca := ((HA11.out.below hb).below hb2).cells.1; have cb := ((HB11.out.below hb).below hb2).cells.1) | (with_reducible (show wpList _ _ _ (⟨_, Op.store 29 _ _, _, _, _, _⟩ :: _) _ _); refine wpList_storeRt rfl _ _ rfl _ rfl b rfl _ hx2 ?_; intro w14 hx3 hb3 ht3 hs3) | (with_reducible (show wpList _ _ _ (⟨_, Op.load 29 _, _, _, _, _⟩ :: _) _ _); first | (refine wpList_exec rfl _ (exec_loadRt _ rfl _ rfl ((HB11.out.below hb).below hb2)) ?_) | (refine wpList_exec rfl _ (exec_loadRt _ rfl _ rfl (HA11.out.below hb)) ?_)))
  clear ca cb hgt
  have HA12 := Lib.hid (HA11.out.below hb)
  have HB12 := Lib.hid (HB11.out.below hb)
  have HX12 := Lib.hid (HX11.out.below hb)
  have HY12 := Lib.hid (HY11.out.below hb)
  have HU12 := Lib.hid (HU11.out.below hb)
  have HV12 := Lib.hid (HV11.out.below hb)
  have HBB12 := Lib.hid (HBB11.out.trans (hb.mono HBB11.out.size))
  have HQ12 := Lib.hid (hx)
  clear HA11 HB11 HX11 HY11 HU11 HV11 HBB11
  clear hx hb hlt
  have HA13 := Lib.hid (HA12.out.below hb2)
  have HB13 := Lib.hid (HB12.out.below hb2)
  have HX13 := Lib.hid (HX12.out.below hb2)
  have HY13 := Lib.hid (HY12.out.below hb2)
  have HU13 := Lib.hid (HU12.out.below hb2)
  have HV13 := Lib.hid (HV12.out.below hb2)
  have HQ13 := Lib.hid (HQ12.out.below hb2)
  have HBB13 := Lib.hid (HBB12.out.trans (hb2.mono HBB12.out.size))
  have HN13 := Lib.hid (hx2)
  clear HA12 HB12 HX12 HY12 HU12 HV12 HQ12 HBB12
  clear hx2 hb2 hlt2
  refine wp_region_R (R := fun x y => Below x.heap.size x y) (by kernel_rfl) (fun _ => Below.refl _ _) (fun h k => h.trans (k.mono h.size)) (by kernel_rfl) (fun d v c a w h => by cases d <;> exact h)
    [(0, false), (1, false), (2, false), (3, false), (4, false), (5, false), (6, false), (7, false), (8, false), (9, false), (10, false), (11, false), (12, false), (13, false), (14, false), (15, false), (16, false), (17, false), (18, false), (19, false), (20, false), (21, false), (22, false), (23, false), (24, false), (25, false), (26, false), (27, false), (28, false), (29, false), (30, false), (31, false), (32, false), (33, false), (34, false), (35, false), (36, false), (37, false), (38, false), (39, false), (40, false), (42, false), (43, false), (44, false), (45, false), (41, true), (46, false), (47, false), (48, false)] rfl (by kernel_rfl) (by kernel_rfl) ?_
  simp only [sel, List.getElem?_toArray, List.getElem?_cons_succ, List.getElem?_cons_zero]
  have DA : Hid (RBox w13.drew _ a) := HA13.out
  have DB : Hid (RBox w13.drew _ b) := HB13.out
  have DX : Hid (RBox w13.drew _ a) := HX13.out
  have DY : Hid (RBox w13.drew _ a) := HY13.out
  have DU : Hid (RBox w13.drew _ a) := HU13.out
  have DV : Hid (RBox w13.drew _ b) := HV13.out
  have DQ : Hid (RBox w13.drew _ zeroR) := HQ13.out
  have DN : Hid (RBox w13.drew _ a) := HN13.out
  have DBB : Hid (Below w.heap.size w w13.drew) := HBB13.out.drew
  clear HA13 HB13 HX13 HY13 HU13 HV13 HQ13 HN13 HBB13
  generalize w13.drew = wd at *
  iterate 5 (refine sch_take ?_ rfl ?_ ?_; rotate_left; (focus (intro u hu; go_simp <;> rfl)); simp only [Act.put, List.setIfInBounds_toArray, List.set_cons_zero, List.set_cons_succ])
  refine sch_take (.agg (rtV a)) rfl (fun u hu => exec_loadRt _ rfl _ rfl (DX.out.below hu)) ?_
  simp only [Act.put, List.setIfInBounds_toArray, List.set_cons_zero, List.set_cons_succ]
  refine sch_take (.agg (rtV a)) rfl (fun u hu => exec_loadRt _ rfl _ rfl (DN.out.below hu)) ?_
  simp only [Act.put, List.setIfInBounds_toArray, List.set_cons_zero, List.set_cons_succ]
  refine sch_take (.bool true) rfl (fun u hu => exec_eqRt_same _ _ rfl rfl rfl GA.out) ?_
  simp only [Act.put, List.setIfInBounds_toArray, List.set_cons_zero, List.set_cons_succ]
  iterate 2 (refine sch_take ?_ rfl ?_ ?_; rotate_left; (focus (intro u hu; go_simp <;> rfl)); simp only [Act.put, List.setIfInBounds_toArray, List.set_cons_zero, List.set_cons_succ])
  refine sch_take (.agg (rtV a)) rfl (fun u hu => exec_loadRt _ rfl _ rfl (DY.out.below hu)) ?_
  simp only [Act.put, List.setIfInBounds_toArray, List.set_cons_zero, List.set_cons_succ]
  refine sch_take (.agg (rtV a)) rfl (fun u hu => exec_loadRt _ rfl _ rfl (DN.out.below hu)) ?_
  simp only [Act.put, List.setIfInBounds_toArray, List.set_cons_zero, List.set_cons_succ]
  refine sch_take (.bool true) rfl (fun u hu => exec_eqRt_same _ _ rfl rfl rfl GA.out) ?_
  simp only [Act.put, List.setIfInBounds_toArray, List.set_cons_zero, List.set_cons_succ]
  iterate 5 (refine sch_take ?_ rfl ?_ ?_; rotate_left; (focus (intro u hu; go_simp <;> rfl)); simp only [Act.put, List.setIfInBounds_toArray, List.set_cons_zero, List.set_cons_succ])
  refine sch_take (.agg (rtV a)) rfl (fun u hu => exec_loadRt _ rfl _ rfl (DU.out.below hu)) ?_
  simp only [Act.put, List.setIfInBounds_toArray, List.set_cons_zero, List.set_cons_succ]
  refine sch_take (.agg (rtV a)) rfl (fun u hu => exec_loadRt _ rfl _ rfl (DA.out.below hu)) ?_
  simp only [Act.put, List.setIfInBounds_toArray, List.set_cons_zero, List.set_cons_succ]
  refine sch_take (.bool true) rfl (fun u hu => exec_eqRt_same _ _ rfl rfl rfl GA.out) ?_
  simp only [Act.put, List.setIfInBounds_toArray, List.set_cons_zero, List.set_cons_succ]
  iterate 5 (refine sch_take ?_ rfl ?_ ?_; rotate_left; (focus (intro u hu; go_simp <;> rfl)); simp only [Act.put, List.setIfInBounds_toArray, List.set_cons_zero, List.set_cons_succ])
  refine sch_take (.agg (rtV b)) rfl (fun u hu => exec_loadRt _ rfl _ rfl (DV.out.below hu)) ?_
  simp only [Act.put, List.setIfInBounds_toArray, List.set_cons_zero, List.set_cons_succ]
  refine sch_take (.agg (rtV b)) rfl (fun u hu => exec_loadRt _ rfl _ rfl (DB.out.below hu)) ?_
  simp only [Act.put, List.setIfInBounds_toArray, List.set_cons_zero, List.set_cons_succ]
  refine sch_take (.bool true) rfl (fun u hu => exec_eqRt_same _ _ rfl rfl rfl GB.out) ?_
  simp only [Act.put, List.setIfInBounds_toArray, List.set_cons_zero, List.set_cons_succ]
  iterate 6 (refine sch_take ?_ rfl ?_ ?_; rotate_left; (focus (intro u hu; go_simp <;> rfl)); simp only [Act.put, List.setIfInBounds_toArray, List.set_cons_zero, List.set_cons_succ])
  refine sch_take (.agg (rtV zeroR)) rfl (fun u hu => exec_loadRt _ rfl _ rfl (DQ.out.below hu)) ?_
  simp only [Act.put, List.setIfInBounds_toArray, List.set_cons_zero, List.set_cons_succ]
  refine sch_take (.agg (rtV zeroR)) rfl (fun u hu => by go_simp <;> rfl) ?_
  simp only [Act.put, List.setIfInBounds_toArray, List.set_cons_zero, List.set_cons_succ]
  refine sch_take (.bool true) rfl (fun u hu => exec_eqRt_same _ _ rfl rfl rfl zeroR_wf) ?_
  simp only [Act.put, List.setIfInBounds_toArray, List.set_cons_zero, List.set_cons_succ]
  iterate 2 (refine sch_take ?_ rfl ?_ ?_; rotate_left; (focus (intro u hu; go_simp <;> rfl)); simp only [Act.put, List.setIfInBounds_toArray, List.set_cons_zero, List.set_cons_succ])
  refine sch_take (.agg (rtV a)) rfl (fun u hu => exec_loadRt _ rfl _ rfl (DA.out.below hu)) ?_
  simp only [Act.put, List.setIfInBounds_toArray, List.set_cons_zero, List.set_cons_succ]
  (refine sch_take ?_ rfl ?_ ?_; rotate_left; (focus (intro u hu; go_simp <;> rfl)); simp only [Act.put, List.setIfInBounds_toArray, List.set_cons_zero, List.set_cons_succ])
  refine sch_take (.int .u64 (a.e : Int)) rfl (fun u hu => by have cc := (DA.out.below hu).cells.1; go_simp <;> rfl) ?_
  simp only [Act.put, List.setIfInBounds_toArray, List.set_cons_zero, List.set_cons_succ]
  have hand := r_and1 a.e GA.out.1
  refine sch_take (.int .u64 ((a.e % 2 : Nat) : Int)) rfl (fun u hu => by go_simp <;> first | rfl | (rw [hand])) ?_
  simp only [Act.put, List.setIfInBounds_toArray, List.set_cons_zero, List.set_cons_succ]
  clear hand
  have hm : a.e % 2 < 2 := Nat.mod_lt _ (by decide)
  obtain ⟨x2, hx2⟩ : ∃ x2 : Nat, a.e % 2 = x2 := ⟨_, rfl⟩
  rw [hx2] at hm ⊢
  have hm1 : (0 : Int) ≤ (x2 : Int) := by omega
  have hm2 : (x2 : Int) < 2 := by omega
  refine sch_take (.int .i64 (x2 : Int)) rfl (fun u hu => by have hw : IntKind.i64.wrap (x2 : Int) = (x2 : Int) := by (rcases (show x2 = 0 ∨ x2 = 1 by omega) with rfl | rfl) <;> rfl
                                                             go_simp <;> first | rfl | (rw [hw])) ?_
  simp only [Act.put, List.setIfInBounds_toArray, List.set_cons_zero, List.set_cons_succ]
  refine sch_call rfl ?_
  intro K hK
  go_simp
  refine (rslot_any _ a).mono ?_
  rintro e wz ⟨rfl, hbz⟩
  rw [hx2]
  go_wp2_with fail
  refine hK _ _ hbz ?_
  clear hK K
  have HZ := Lib.hid (DBB.out.trans (hbz.mono DBB.out.size))
  clear hbz
  (refine sch_take ?_ rfl ?_ ?_; rotate_left; (focus (intro u hu; go_simp <;> rfl)); simp only [Act.put, List.setIfInBounds_toArray, List.set_cons_zero, List.set_cons_succ])
  (refine sch_take ?_ rfl ?_ ?_; rotate_left; (focus (intro u hu; go_simp <;> rfl)); simp only [Act.put, List.setIfInBounds_toArray, List.set_cons_zero, List.set_cons_succ])
  (refine sch_take ?_ rfl ?_ ?_; rotate_left; (focus (intro u hu; go_simp <;> rfl)); simp only [Act.put, List.setIfInBounds_toArray, List.set_cons_zero, List.set_cons_succ])
  refine sch_nil ?_
  go_wp2_with fail
  go_ret
  exact ⟨rfl, HZ.out⟩
  -- END gt
set_option maxRecDepth 100000 in
set_option maxHeartbeats 40000000 in
theorem walk_lt (w : World) (a b : Rt) (ha : a.Wf) (hb : b.Wf) (hlt : a.e < b.e) :
    Calls Tryd.prog 7 #[.agg (rtV a), .agg (rtV b)] w fun e w' => e = .returned (.bool true) ∧ Below w.heap.size w w' := by
  have Z := rtZero
  have GA := Lib.hid ha
  have GB := Lib.hid hb
  clear ha hb
  obtain ⟨w0, hw0⟩ : ∃ w0, w.alloc (.cells (rtV a) 29) = w0 := ⟨_, rfl⟩
  obtain ⟨w1, hw1⟩ : ∃ w1, w0.alloc (.cells (rtV b) 29) = w1 := ⟨_, rfl⟩
  have hb0 : Below w.heap.size w w0 := hw0 ▸ below_new w _
  have hb1 : Below w0.heap.size w0 w1 := hw1 ▸ below_new w0 _
  have hs0 : w0.heap.size = w.heap.size + 1 := by rw [← hw0]; simp
  have HA1 : Hid (RBox w1 w.heap.size a) := (hw0 ▸ RBox.new w a : RBox w0 w.heap.size a).below hb1
  have HB1 : Hid (RBox w1 (w.heap.size + 1) b) := hs0 ▸ (hw1 ▸ RBox.new w0 b : RBox w1 w0.heap.size b)
  have HBB1 : Hid (Below w.heap.size w w1) := hb0.trans (hb1.mono hb0.size)
  have HW0 := Lib.hid hw0
  have HW1 := Lib.hid hw1
  have HS0 := Lib.hid hs0
  clear hw0 hw1 hb0 hb1 hs0
  have he1 : ((a.e : Int) == (b.e : Int)) = false := by rw [beq_eq_false_iff_ne]; omega
  have hgt : (a.e : Int) < (b.e : Int) := by omega
  have C1 : Hid (∀ w, Calls Tryd.prog 18 #[.agg (rtV a), .agg (rtV b), .bool true, .bool true] w (ChoE w (b, true))) := fun w => (show chooseR a b true true = (b, true) from by unfold chooseR; simp <;> omega) ▸ choose_any w a b true true
  have C2 : Hid (∀ w, Calls Tryd.prog 18 #[.agg (rtV b), .agg (rtV a), .bool true, .bool true] w (ChoE w (b, true))) := fun w => (show chooseR b a true true = (b, true) from by unfold chooseR; simp <;> omega) ▸ choose_any w b a true true
  have C3 : Hid (∀ w, Calls Tryd.prog 18 #[.agg (rtV a), .agg (rtV b), .bool true, .bool false] w (ChoE w (a, true))) := fun w => (show chooseR a b true false = (a, true) from by unfold chooseR; simp <;> omega) ▸ choose_any w a b true false
  have C4 : Hid (∀ w, Calls Tryd.prog 18 #[.agg (rtV a), .agg (rtV b), .bool false, .bool true] w (ChoE w (b, true))) := fun w => (show chooseR a b false true = (b, true) from by unfold chooseR; simp <;> omega) ▸ choose_any w a b false true
  have C5 : Hid (∀ w, Calls Tryd.prog 18 #[.agg (rtV a), .agg (rtV b), .bool false, .bool false] w (ChoE w (zeroR, false))) := fun w => (show chooseR a b false false = (zeroR, false) from by unfold chooseR; simp <;> omega) ▸ choose_any w a b false false
  have HE := Lib.hid he1
  have HGT := Lib.hid hgt
  clear hlt hgt
  go_enter Tryd.func7, Tryd.ntmps7
  go_wp2_with fail
  rw [HW0.out, HW1.out]
  refine (lives6_any _).mono ?_
  rintro e w2 ⟨rfl, hb⟩
  have HA2 := Lib.hid (HA1.out.below hb)
  have HB2 := Lib.hid (HB1.out.below hb)
  have HBB2 := Lib.hid (HBB1.out.trans (hb.mono HBB1.out.size))
  clear HA1 HB1 HBB1
  clear hb HW0 HW1 HS0
  have ca := HA2.out.cells.1
  have cb := HB2.out.cells.1
  go_wp2_with ((with_reducible (show wpList _ _ _ (⟨_, Op.load 29 _, _, _, _, _⟩ :: _) _ _); first | (refine wpList_exec rfl _ (exec_loadRt _ rfl _ rfl HA2.out) ?_) | (refine wpList_exec rfl _ (exec_loadRt _ rfl _ rfl HB2.out) ?_)))
  clear ca cb
  refine (C1.out _).mono ?_
  rintro e w3 ⟨rfl, hb⟩
  have HA3 := Lib.hid (HA2.out.below hb)
  have HB3 := Lib.hid (HB2.out.below hb)
  have HBB3 := Lib.hid (HBB2.out.trans (hb.mono HBB2.out.size))
  clear HA2 HB2 HBB2
  clear hb
  go_wp2_with (first | (with_reducible (show wpList _ _ _ (⟨_, Op.store 29 _ _, _, _, _, _⟩ :: _) _ _); refine wpList_storeNewRt zeroR b rfl _ _ rfl rfl rfl ?_; intro w4 hx hb hlt) | (with_reducible (show wpList _ _ _ (⟨_, Op.load 29 _, _, _, _, _⟩ :: _) _ _); first | (refine wpList_exec rfl _ (exec_loadRt _ rfl _ rfl (HA3.out.below hb)) ?_) | (refine wpList_exec rfl _ (exec_loadRt _ rfl _ rfl (HB3.out.below hb)) ?_)))
  have HA4 := Lib.hid (HA3.out.below hb)
  have HB4 := Lib.hid (HB3.out.below hb)
  have HBB4 := Lib.hid (HBB3.out.trans (hb.mono HBB3.out.size))
  have HX4 := Lib.hid (hx)
  clear HA3 HB3 HBB3
  clear hx hb hlt
  clear he1
  refine (C2.out _).mono ?_
  rintro e w5 ⟨rfl, hb⟩
  have HA5 := Lib.hid (HA4.out.below hb)
  have HB5 := Lib.hid (HB4.out.below hb)
  have HX5 := Lib.hid (HX4.out.below hb)
  have HBB5 := Lib.hid (HBB4.out.trans (hb.mono HBB4.out.size))
  clear HA4 HB4 HX4 HBB4
  clear hb
  go_wp2_with (first | (with_reducible (show wpList _ _ _ (⟨_, Op.store 29 _ _, _, _, _, _⟩ :: _) _ _); refine wpList_storeNewRt zeroR b rfl _ _ rfl rfl rfl ?_; intro w6 hx hb hlt) | (with_reducible (show wpList _ _ _ (⟨_, Op.load 29 _, _, _, _, _⟩ :: _) _ _); first | (refine wpList_exec rfl _ (exec_loadRt _ rfl _ rfl (HA5.out.below hb)) ?_) | (refine wpList_exec rfl _ (exec_loadRt _ rfl _ rfl (HB5.out.below hb)) ?_)))
  have HA6 := Lib.hid (HA5.out.below hb)
  have HB6 := Lib.hid (HB5.out.below hb)
  have HX6 := Lib.hid (HX5.out.below hb)
  have HBB6 := Lib.hid (HBB5.out.trans (hb.mono HBB5.out.size))
  have HY6 := Lib.hid (hx)
  clear HA5 HB5 HX5 HBB5
  clear hx hb hlt
  refine (C3.out _).mono ?_
  rintro e w7 ⟨rfl, hb⟩
  have HA7 := Lib.hid (HA6.out.below hb)
  have HB7 := Lib.hid (HB6.out.below hb)
  have HX7 := Lib.hid (HX6.out.below hb)
  have HY7 := Lib.hid (HY6.out.below hb)
  have HBB7 := Lib.hid (HBB6.out.trans (hb.mono HBB6.out.size))
  clear HA6 HB6 HX6 HY6 HBB6
  clear hb
  go_wp2_with (first | (with_reducible (show wpList _ _ _ (⟨_, Op.store 29 _ _, _, _, _, _⟩ :: _) _ _); refine wpList_storeNewRt zeroR a rfl _ _ rfl rfl rfl ?_; intro w8 hx hb hlt) | (with_reducible (show wpList _ _ _ (⟨_, Op.load 29 _, _, _, _, _⟩ :: _) _ _); first | (refine wpList_exec rfl _ (exec_loadRt _ rfl _ rfl (HA7.out.below hb)) ?_) | (refine wpList_exec rfl _ (exec_loadRt _ rfl _ rfl (HB7.out.below hb)) ?_)))
  have HA8 := Lib.hid (HA7.out.below hb)
  have HB8 := Lib.hid (HB7.out.below hb)
  have HX8 := Lib.hid (HX7.out.below hb)
  have HY8 := Lib.hid (HY7.out.below hb)
  have HBB8 := Lib.hid (HBB7.out.trans (hb.mono HBB7.out.size))
  have HU8 := Lib.hid (hx)
  clear HA7 HB7 HX7 HY7 HBB7
  clear hx hb hlt
  refine (C4.out _).mono ?_
  rintro e w9 ⟨rfl, hb⟩
  have HA9 := Lib.hid (HA8.out.below hb)
  have HB9 := Lib.hid (HB8.out.below hb)
  have HX9 := Lib.hid (HX8.out.below hb)
  have HY9 := Lib.hid (HY8.out.below hb)
  have HU9 := Lib.hid (HU8.out.below hb)
  have HBB9 := Lib.hid (HBB8.out.trans (hb.mono HBB8.out.size))
  clear HA8 HB8 HX8 HY8 HU8 HBB8
  clear hb
  go_wp2_with (first | (with_reducible (show wpList _ _ _ (⟨_, Op.store 29 _ _, _, _, _, _⟩ :: _) _ _); refine wpList_storeNewRt zeroR b rfl _ _ rfl rfl rfl ?_; intro w10 hx hb hlt) | (with_reducible (show wpList _ _ _ (⟨_, Op.load 29 _, _, _, _, _⟩ :: _) _ _); first | (refine wpList_exec rfl _ (exec_loadRt _ rfl _ rfl (HA9.out.below hb)) ?_) | (refine wpList_exec rfl _ (exec_loadRt _ rfl _ rfl (HB9.out.below hb)) ?_)))
  have HA10 := Lib.hid (HA9.out.below hb)
  have HB10 := Lib.hid (HB9.out.below hb)
  have HX10 := Lib.hid (HX9.out.below hb)
  have HY10 := Lib.hid (HY9.out.below hb)
  have HU10 := Lib.hid (HU9.out.below hb)
  have HBB10 := Lib.hid (HBB9.out.trans (hb.mono HBB9.out.size))
  have HV10 := Lib.hid (hx)
  clear HA9 HB9 HX9 HY9 HU9 HBB9
  clear hx hb hlt
  refine (C5.out _).mono ?_
  rintro e w11 ⟨rfl, hb⟩
  have HA11 := Lib.hid (HA10.out.below hb)
  have HB11 := Lib.hid (HB10.out.below hb)
  have HX11 := Lib.hid (HX10.out.below hb)
  have HY11 := Lib.hid (HY10.out.below hb)
  have HU11 := Lib.hid (HU10.out.below hb)
  have HV11 := Lib.hid (HV10.out.below hb)
  have HBB11 := Lib.hid (HBB10.out.trans (hb.mono HBB10.out.size))
  clear HA10 HB10 HX10 HY10 HU10 HV10 HBB10
  clear hb
  have hgt := HGT.out
  go_wp2_with (first | (with_reducible (show wpList _ _ _ (⟨_, Op.store 29 _ _, _, _, _, _⟩ :: _) _ _); refine wpList_storeNewRt zeroR zeroR rfl _ _ rfl rfl rfl ?_; intro w12 hx hb hlt) | (with_reducible (show wpList _ _ _ (⟨_, Op.store 29 _ _, _, _, _, _⟩ :: _) _ _); refine wpList_storeNewRt zeroR a rfl _ _ rfl rfl rfl ?_; intro w13 hx2 hb2 hlt2; have ca := ((HA11.out.below hb).below hb2).cells.1; have cb := ((HB11.out.below hb).below hb2).cells.1) | (with_reducible (show wpList _ _ _ (⟨_, Op.store 29 _ _, _, _, _, _⟩ :: _) _ _); refine wpList_storeRt rfl _ _ rfl _ rfl b rfl _ hx2 ?_; intro w14 hx3 hb3 ht3 hs3) | (with_reducible (show wpList _ _ _ (⟨_, Op.load 29 _, _, _, _, _⟩ :: _) _ _); first | (refine wpList_exec rfl _ (exec_loadRt _ rfl _ rfl ((HB11.out.below hb).below hb2)) ?_) | (refine wpList_exec rfl _ (exec_loadRt _ rfl _ rfl (HA11.out.below hb)) ?_)))
  clear ca cb hgt
  have HA12 := Lib.hid (HA11.out.below hb)
  have HB12 := Lib.hid (HB11.out.below hb)
  have HX12 := Lib.hid (HX11.out.below hb)
  have HY12 := Lib.hid (HY11.out.below hb)
  have HU12 := Lib.hid (HU11.out.below hb)
  have HV12 := Lib.hid (HV11.out.below hb)
  have HBB12 := Lib.hid (HBB11.out.trans (hb.mono HBB11.out.size))
  have HQ12 := Lib.hid (hx)
  clear HA11 HB11 HX11 HY11 HU11 HV11 HBB11
  clear hx hb hlt
  have HA13 := Lib.hid (HA12.out.below hb2)
  have HB13 := Lib.hid (HB12.out.below hb2)
  have HX13 := Lib.hid (HX12.out.below hb2)
  have HY13 := Lib.hid (HY12.out.below hb2)
  have HU13 := Lib.hid (HU12.out.below hb2)
  have HV13 := Lib.hid (HV12.out.below hb2)
  have HQ13 := Lib.hid (HQ12.out.below hb2)
  have HBB13 := Lib.hid (HBB12.out.trans (hb2.mono HBB12.out.size))
  have HA14 := Lib.hid (HA13.out.trn ht3 (fun q => absurd (q ▸ HA12.out.lt) (Nat.lt_irrefl _)))
  have HB14 := Lib.hid (HB13.out.trn ht3 (fun q => absurd (q ▸ HB12.out.lt) (Nat.lt_irrefl _)))
  have HX14 := Lib.hid (HX13.out.trn ht3 (fun q => absurd (q ▸ HX12.out.lt) (Nat.lt_irrefl _)))
  have HY14 := Lib.hid (HY13.out.trn ht3 (fun q => absurd (q ▸ HY12.out.lt) (Nat.lt_irrefl _)))
  have HU14 := Lib.hid (HU13.out.trn ht3 (fun q => absurd (q ▸ HU12.out.lt) (Nat.lt_irrefl _)))
  have HV14 := Lib.hid (HV13.out.trn ht3 (fun q => absurd (q ▸ HV12.out.lt) (Nat.lt_irrefl _)))
  have HQ14 := Lib.hid (HQ13.out.trn ht3 (fun q => absurd (q ▸ HQ12.out.lt) (Nat.lt_irrefl _)))
  have HBB14 := Lib.hid (hb3 _ _ HBB13.out HBB12.out.size)
  have HN14 := Lib.hid hx3
  clear HA12 HB12 HX12 HY12 HU12 HV12 HQ12 HBB12 HA13 HB13 HX13 HY13 HU13 HV13 HQ13 HBB13
  clear hx2 hb2 hlt2 hx3 hb3 ht3 hs3
  refine wp_region_R (R := fun x y => Below x.heap.size x y) (by kernel_rfl) (fun _ => Below.refl _ _) (fun h k => h.trans (k.mono h.size)) (by kernel_rfl) (fun d v c a w h => by cases d <;> exact h)
    [(0, false), (1, false), (2, false), (3, false), (4, false), (5, false), (6, false), (7, false), (8, false), (9, false), (10, false), (11, false), (12, false), (13, false), (14, false), (15, false), (16, false), (17, false), (18, false), (19, false), (20, false), (21, false), (22, false), (23, false), (24, false), (25, false), (26, false), (27, false), (28, false), (29, false), (30, false), (31, false), (32, false), (33, false), (34, false), (35, false), (36, false), (37, false), (38, false), (39, false), (40, false), (42, false), (43, false), (44, false), (45, false), (41, true), (46, false), (47, false), (48, false)] rfl (by kernel_rfl) (by kernel_rfl) ?_
  simp only [sel, List.getElem?_toArray, List.getElem?_cons_succ, List.getElem?_cons_zero]
  have DA : Hid (RBox w14.drew _ a) := HA14.out
  have DB : Hid (RBox w14.drew _ b) := HB14.out
  have DX : Hid (RBox w14.drew _ b) := HX14.out
  have DY : Hid (RBox w14.drew _ b) := HY14.out
  have DU : Hid (RBox w14.drew _ a) := HU14.out
  have DV : Hid (RBox w14.drew _ b) := HV14.out
  have DQ : Hid (RBox w14.drew _ zeroR) := HQ14.out
  have DN : Hid (RBox w14.drew _ b) := HN14.out
  have DBB : Hid (Below w.heap.size w w14.drew) := HBB14.out.drew
  clear HA14 HB14 HX14 HY14 HU14 HV14 HQ14 HN14 HBB14
  generalize w14.drew = wd at *
  iterate 5 (refine sch_take ?_ rfl ?_ ?_; rotate_left; (focus (intro u hu; go_simp <;> rfl)); simp only [Act.put, List.setIfInBounds_toArray, List.set_cons_zero, List.set_cons_succ])
  refine sch_take (.agg (rtV b)) rfl (fun u hu => exec_loadRt _ rfl _ rfl (DX.out.below hu)) ?_
  simp only [Act.put, List.setIfInBounds_toArray, List.set_cons_zero, List.set_cons_succ]
  refine sch_take (.agg (rtV b)) rfl (fun u hu => exec_loadRt _ rfl _ rfl (DN.out.below hu)) ?_
  simp only [Act.put, List.setIfInBounds_toArray, List.set_cons_zero, List.set_cons_succ]
  refine sch_take (.bool true) rfl (fun u hu => exec_eqRt_same _ _ rfl rfl rfl GB.out) ?_
  simp only [Act.put, List.setIfInBounds_toArray, List.set_cons_zero, List.set_cons_succ]
  iterate 2 (refine sch_take ?_ rfl ?_ ?_; rotate_left; (focus (intro u hu; go_simp <;> rfl)); simp only [Act.put, List.setIfInBounds_toArray, List.set_cons_zero, List.set_cons_succ])
  refine sch_take (.agg (rtV b)) rfl (fun u hu => exec_loadRt _ rfl _ rfl (DY.out.below hu)) ?_
  simp only [Act.put, List.setIfInBounds_toArray, List.set_cons_zero, List.set_cons_succ]
  refine sch_take (.agg (rtV b)) rfl (fun u hu => exec_loadRt _ rfl _ rfl (DN.out.below hu)) ?_
  simp only [Act.put, List.setIfInBounds_toArray, List.set_cons_zero, List.set_cons_succ]
  refine sch_take (.bool true) rfl (fun u hu => exec_eqRt_same _ _ rfl rfl rfl GB.out) ?_
  simp only [Act.put, List.setIfInBounds_toArray, List.set_cons_zero, List.set_cons_succ]
  iterate 5 (refine sch_take ?_ rfl ?_ ?_; rotate_left; (focus (intro u hu; go_simp <;> rfl)); simp only [Act.put, List.setIfInBounds_toArray, List.set_cons_zero, List.set_cons_succ])
  refine sch_take (.agg (rtV a)) rfl (fun u hu => exec_loadRt _ rfl _ rfl (DU.out.below hu)) ?_
  simp only [Act.put, List.setIfInBounds_toArray, List.set_cons_zero, List.set_cons_succ]
  refine sch_take (.agg (rtV a)) rfl (fun u hu => exec_loadRt _ rfl _ rfl (DA.out.below hu)) ?_
  simp only [Act.put, List.setIfInBounds_toArray, List.set_cons_zero, List.set_cons_succ]
  refine sch_take (.bool true) rfl (fun u hu => exec_eqRt_same _ _ rfl rfl rfl GA.out) ?_
  simp only [Act.put, List.setIfInBounds_toArray, List.set_cons_zero, List.set_cons_succ]
  iterate 5 (refine sch_take ?_ rfl ?_ ?_; rotate_left; (focus (intro u hu; go_simp <;> rfl)); simp only [Act.put, List.setIfInBounds_toArray, List.set_cons_zero, List.set_cons_succ])
  refine sch_take (.agg (rtV b)) rfl (fun u hu => exec_loadRt _ rfl _ rfl (DV.out.below hu)) ?_
  simp only [Act.put, List.setIfInBounds_toArray, List.set_cons_zero, List.set_cons_succ]
  refine sch_take (.agg (rtV b)) rfl (fun u hu => exec_loadRt _ rfl _ rfl (DB.out.below hu)) ?_
  simp only [Act.put, List.setIfInBounds_toArray, List.set_cons_zero, List.set_cons_succ]
  refine sch_take (.bool true) rfl (fun u hu => exec_eqRt_same _ _ rfl rfl rfl GB.out) ?_
  simp only [Act.put, List.setIfInBounds_toArray, List.set_cons_zero, List.set_cons_succ]
  iterate 6 (refine sch_take ?_ rfl ?_ ?_; rotate_left; (focus (intro u hu; go_simp <;> rfl)); simp only [Act.put, List.setIfInBounds_toArray, List.set_cons_zero, List.set_cons_succ])
  refine sch_take (.agg (rtV zeroR)) rfl (fun u hu => exec_loadRt _ rfl _ rfl (DQ.out.below hu)) ?_
  simp only [Act.put, List.setIfInBounds_toArray, List.set_cons_zero, List.set_cons_succ]
  refine sch_take (.agg (rtV zeroR)) rfl (fun u hu => by go_simp <;> rfl) ?_
  simp only [Act.put, List.setIfInBounds_toArray, List.set_cons_zero, List.set_cons_succ]
  refine sch_take (.bool true) rfl (fun u hu => exec_eqRt_same _ _ rfl rfl rfl zeroR_wf) ?_
  simp only [Act.put, List.setIfInBounds_toArray, List.set_cons_zero, List.set_cons_succ]
  iterate 2 (refine sch_take ?_ rfl ?_ ?_; rotate_left; (focus (intro u hu; go_simp <;> rfl)); simp only [Act.put, List.setIfInBounds_toArray, List.set_cons_zero, List.set_cons_succ])
  refine sch_take (.agg (rtV a)) rfl (fun u hu => exec_loadRt _ rfl _ rfl (DA.out.below hu)) ?_
  simp only [Act.put, List.setIfInBounds_toArray, List.set_cons_zero, List.set_cons_succ]
  (refine sch_take ?_ rfl ?_ ?_; rotate_left; (focus (intro u hu; go_simp <;> rfl)); simp only [Act.put, List.setIfInBounds_toArray, List.set_cons_zero, List.set_cons_succ])
  refine sch_take (.int .u64 (a.e : Int)) rfl (fun u hu => by have cc := (DA.out.below hu).cells.1; go_simp <;> rfl) ?_
  simp only [Act.put, List.setIfInBounds_toArray, List.set_cons_zero, List.set_cons_succ]
  have hand := r_and1 a.e GA.out.1
  refine sch_take (.int .u64 ((a.e % 2 : Nat) : Int)) rfl (fun u hu => by go_simp <;> first | rfl | (rw [hand])) ?_
  simp only [Act.put, List.setIfInBounds_toArray, List.set_cons_zero, List.set_cons_succ]
  clear hand
  have hm : a.e % 2 < 2 := Nat.mod_lt _ (by decide)
  obtain ⟨x2, hx2⟩ : ∃ x2 : Nat, a.e % 2 = x2 := ⟨_, rfl⟩
  rw [hx2] at hm ⊢
  have hm1 : (0 : Int) ≤ (x2 : Int) := by omega
  have hm2 : (x2 : Int) < 2 := by omega
  refine sch_take (.int .i64 (x2 : Int)) rfl (fun u hu => by have hw : IntKind.i64.wrap (x2 : Int) = (x2 : Int) := by (rcases (show x2 = 0 ∨ x2 = 1 by omega) with rfl | rfl) <;> rfl
                                                             go_simp <;> first | rfl | (rw [hw])) ?_
  simp only [Act.put, List.setIfInBounds_toArray, List.set_cons_zero, List.set_cons_succ]
  refine sch_call rfl ?_
  intro K hK
  go_simp
  refine (rslot_any _ a).mono ?_
  rintro e wz ⟨rfl, hbz⟩
  rw [hx2]
  go_wp2_with fail
  refine hK _ _ hbz ?_
  clear hK K
  have HZ := Lib.hid (DBB.out.trans (hbz.mono DBB.out.size))
  clear hbz
  (refine sch_take ?_ rfl ?_ ?_; rotate_left; (focus (intro u hu; go_simp <;> rfl)); simp only [Act.put, List.setIfInBounds_toArray, List.set_cons_zero, List.set_cons_succ])
  (refine sch_take ?_ rfl ?_ ?_; rotate_left; (focus (intro u hu; go_simp <;> rfl)); simp only [Act.put, List.setIfInBounds_toArray, List.set_cons_zero, List.set_cons_succ])
  (refine sch_take ?_ rfl ?_ ?_; rotate_left; (focus (intro u hu; go_simp <;> rfl)); simp only [Act.put, List.setIfInBounds_toArray, List.set_cons_zero, List.set_cons_succ])
  refine sch_nil ?_
  go_wp2_with fail
  go_ret
  exact ⟨rfl, HZ.out⟩
  -- END lt
theorem walk (w : World) (a b : Rt) (ha : a.Wf) (hb : b.Wf) :
    Calls Tryd.prog 7 #[.agg (rtV a), .agg (rtV b)] w fun e w' => e = .returned (.bool true) ∧ Below w.heap.size w w' := by
  rcases Nat.lt_trichotomy a.e b.e with h | h | h
  · exact walk_lt w a b ha hb h
  · exact walk_eq w a b ha hb h
  · exact walk_gt w a b ha hb h

set_option maxRecDepth 100000 in
theorem lifted (os : Os) (started : os.Started) (H : Type) (enc : TypeId × Value → H) :
    ReturnsInHanded {} Tryd.checked os 7 .any (fun w args => (Rows.rootChooseSpec.pre enc Tryd.prog Tryd.f7 Rows.rootChooseRow.domain false w args ∧ laidMetH Tryd.prog Rows.rootChooseRow.laid w) ∧ sizedMet enc Tryd.prog Tryd.f7 (OpenSpec.ofChange Rows.rootChooseSpec) false w args) (Rows.rootChooseSpec.post enc Tryd.prog Tryd.f7 false true false false) := by
  refine returnsInHanded_of_change_and (C := Tryd.checked) (X := fun w _ => laidMetH Tryd.prog Rows.rootChooseRow.laid w) (fun _ _ _ hh h => h.of_heap hh) ownKnobs started (by kernel_rfl) Tryd.func7
    (ChangeSpec.witness_shaped (enc := enc) (C := Tryd.checked) (os := os) (X := fun w _ => laidMetH Tryd.prog Rows.rootChooseRow.laid w) false (World.laidAll Tryd.prog os Rows.rootChooseRow.laid) #[.agg (rtV zeroR), .agg (rtV zeroR)] 8 (World.laidAll_os _ _ _)
      (World.shaped_of_ZipB (by kernel_rfl) (by kernel_rfl)) (by kernel_rfl) (by kernel_rfl) (by kernel_rfl)
      (by rw [MakeChecks.laidMetH_plain _ _ _ (by kernel_rfl)]; exact laidMet_laidAll _ (by kernel_rfl) (by kernel_rfl))) ?_
  intro W base args ds gs before hval0 hW hcnd _ _ _
  have hval : ∀ (j : Nat) t v, Tryd.f7.params[j]? = some t → args[j]? = some v → Value.okWide Tryd.prog W .any base t v := hval0
  have hW' := hW
  obtain ⟨p, q, hA0, hV, rfl, hfz, hnd⟩ := hW
  have hA : DataW.TrodAll enc Tryd.prog W 0 (fun _ => true) true Tryd.f7.params.toList args.toList ds p := hA0
  rw [Tryd.params7] at hA hval
  obtain ⟨v0, vs0, d0, ds0, p0, q0, hargs, rfl, rfl, h0, r0⟩ := trodAll_cons hA
  obtain ⟨v1, vs1, d1, ds1, p1, q1, rfl, rfl, rfl, h1, r1⟩ := trodAll_cons r0
  obtain ⟨rfl, rfl, rfl⟩ := trodAll_nil r1
  obtain rfl : args = #[v0, v1] := by cases args; simp_all
  obtain ⟨rfl, rfl⟩ := trodVars_none hV
  have k0 := h0
  have lt0 : ∀ x ∈ p0, x.block < W.heap.size := by obtain ⟨m, hm⟩ := k0; exact DataW.trod_lt m _ _ _ hm
  obtain ⟨rt0, rfl, b0⟩ := open_root (hval 0 29 v0 rfl rfl) h0
  have k1 := h1
  have lt1 : ∀ x ∈ p1, x.block < W.heap.size := by obtain ⟨m, hm⟩ := k1; exact DataW.trod_lt m _ _ _ hm
  obtain ⟨rt1, rfl, b1⟩ := open_root (hval 1 29 v1 rfl rfl) h1
  clear hA0 hval0
  refine (walk W rt0 rt1 b0 b1).mono fun e W' ⟨he, bel⟩ => ?_
  subst he
  exact ⟨_, rfl, _, _, _, [], _, [], hW', trodAll_mk1 (shut_bool Tryd.underlying4 _), (trodAll_cons_mk (Below.trod laidOuts (by kernel_rfl) (of_decide_eq_true (by kernel_rfl)) k0 bel lt0) (trodAll_cons_mk (Below.trod laidOuts (by kernel_rfl) (of_decide_eq_true (by kernel_rfl)) k1 bel lt1) trodAll_mk0)), rfl, bel.frame _, fun h => by cases h⟩

theorem over : Rows.rootChooseRow.holds Tryd.pinned (OpenSpec.ofChange Rows.rootChooseSpec) :=
  OpenClaim.holds_of_wide 7 Tryd.f7 rfl rfl rfl rfl rfl rfl rfl ⟨rfl, rfl, rfl, rfl, rfl⟩ rfl rfl rfl rfl rfl (by kernel_rfl) Tryd.func7 (by kernel_rfl)
    (of_decide_eq_true (by kernel_rfl)) (by unfold Func.isWrapper; first | (rw [if_pos (by decide +kernel)]; kernel_rfl) | (rw [if_neg (by decide +kernel)]; exact ⟨rfl, rfl⟩))
    (fun os started H enc _ => lifted os started H enc)

theorem proved : Rows.RootChooseCardSaid :=
  Claim7.holds_tied_plain_at .later [] [.data, .pinned] true Rows.rootChooseCard.stood.harness false over (fun _ h => by cases h) (by kernel_rfl) (fun _ h => by cases h) rootChoose_row_tie rfl ⟨rfl, rfl⟩ (by kernel_rfl) rfl
    (fun f fn hf hfn => by
      obtain rfl : f = 7 := Option.some.inj ((show Tryd.prog.funcNamed "tallyman/tallymanlaw06.RootChoose" = some 7 by kernel_rfl).symm.trans hf) |>.symm
      obtain rfl : fn = Tryd.f7 := (Option.some.inj (Tryd.func7.symm.trans hfn)).symm
      exact ⟨by kernel_rfl, fun j t ht => by
        rw [Tryd.params7] at ht
        have hm : t ∈ [29, 29] := by simpa using Array.mem_of_getElem? ht
        have hall : ([29, 29].all fun u => !Tryd.prog.wantsStandIn u) = true := by kernel_rfl
        exact (show Tryd.prog.wantsStandIn t = false by simpa using List.all_eq_true.1 hall t hm)⟩)
    (by kernel_rfl)
#print axioms proved
end Go.Proofs.YteeljcnmgfjcmaaDoor.rootChoose
