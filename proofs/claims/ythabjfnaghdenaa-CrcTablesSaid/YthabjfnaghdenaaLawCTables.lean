/-
  The statement CrcTables: the table goes with exclusive or; a step goes back: unlike states, or bytes, have unlike ends; a sum of a sum goes on. Conditions: none.
-/
import Derived.Test.YthabjfnaghdenaaLives3
import Derived.Test.YthabjfnaghdenaaOrd
import Derived.Test.YthabjfnaghdenaaOpen
namespace Go.Proofs.Ythabjfnaghdenaa.crcTables
open Go.ChangeShapes Go.WideShapes Go.ChangeAt Go.RowKit
set_option linter.unusedVariables false

theorem beq_iff {a b c d : Nat} (h : a = b ↔ c = d) : ((a : Int) == (b : Int)) = ((c : Int) == (d : Int)) := by
  rw [Bool.eq_iff_iff, beq_iff_eq, beq_iff_eq]; omega
theorem step_bytes (x : Nat) (a b : UInt8) (hx : x < 4294967296) : stepC tabC x a = stepC tabC x b ↔ a.toNat = b.toNat :=
  ⟨fun h => by rw [stepC_byte hx h], fun h => by rw [UInt8.toNat_inj.1 h]⟩
theorem step_states (x y : Nat) (a : UInt8) (hx : x < 4294967296) (hy : y < 4294967296) : stepC tabC x a = stepC tabC y a ↔ x = y :=
  ⟨fun h => stepC_inj a hx hy h, fun h => by rw [h]⟩
theorem tab_both (a b : UInt8) : bits .xor .u32 (tabC.getD a.toNat 0 : Int) (tabC.getD b.toNat 0 : Int) = (tabC.getD (a ^^^ b).toNat 0 : Int) := by
  rw [u32_xor_nat _ _ (tabC_tab.getD _) (tabC_tab.getD _), tabC_at (byte_lt a), tabC_at (byte_lt b), tabC_at (byte_lt _), ← wordC_xor, UInt8.toNat_xor]
theorem byte_both (a b : UInt8) : bits .xor .u8 (a.toNat : Int) (b.toNat : Int) = ((a ^^^ b).toNat : Int) := by
  rw [u8_xor_nat _ _ (byte_lt a) (byte_lt b), UInt8.toNat_xor]

set_option maxRecDepth 100000 in
set_option maxHeartbeats 4000000 in
theorem walk (w : World) (a b : UInt8) (x y : Nat) (hx : x < 4294967296) (hy : y < 4294967296) :
    Calls Try.prog 7 #[.int .u8 (a.toNat : Int), .int .u8 (b.toNat : Int), .int .u32 (x : Int), .int .u32 (y : Int)] w fun e w' => e = .returned (.bool true) ∧ Below w.heap.size w w' := by
  have Z := tabZero
  rw [tabTo_none] at Z
  have T0 := Lib.hid (tabTo_len 0 (by omega))
  generalize tabTo 0 = t0 at *
  have ST := Lib.hid (fun w => crctable_any w)
  have TC := Lib.hid tabC_tab.1
  have X1 := byte_both a b
  have X2 := tab_both a b
  have V1 := Lib.hid (fun w => crcstep_any w tabC x a tabC_tab hx)
  have V2 := Lib.hid (fun w => crcstep_any w tabC x b tabC_tab hx)
  have V3 := Lib.hid (fun w => crcstep_any w tabC y a tabC_tab hy)
  have O1 := Lib.hid (fun w v hv => crcon_any w tabC x v [a] tabC_tab hx hv (by simp))
  have O2 := Lib.hid (fun w v hv => crcon_any w tabC (onC tabC x [a]) v [b] tabC_tab (onC_lt _ _ _) hv (by simp))
  have O3 := Lib.hid (fun w v hv => crcon_any w tabC x v [a, b] tabC_tab hx hv (by simp))
  have O4 := Lib.hid (fun w => crcon_any w tabC x (.slice none 0 0) [] tabC_tab hx (Byt.nil _) (by simp))
  rw [← onC_app tabC_tab, show ([a] ++ [b] : List UInt8) = [a, b] from rfl] at O2
  rw [onC_nil _ _ hx] at O4
  have E1 := beq_iff (step_bytes x a b hx)
  have E2 := beq_iff (step_states x y a hx hy)
  have la : (a.toNat : Int) < 256 := by have := byte_lt a; omega
  have lb : (b.toNat : Int) < 256 := by have := byte_lt b; omega
  have lc : ((a ^^^ b).toNat : Int) < 256 := by have := byte_lt (a ^^^ b); omega
  clear hx hy
  generalize hp1 : ((a.toNat : Int) == (b.toNat : Int)) = p1 at *
  generalize hp2 : ((x : Int) == (y : Int)) = p2 at *
  generalize stepC tabC x a = z1 at *
  generalize stepC tabC x b = z2 at *
  generalize stepC tabC y a = z3 at *
  generalize onC tabC x [a, b] = z4 at *
  generalize onC tabC x [a] = z5 at *
  have CA : Hid (∀ (w : World) (g : Nat), ATab w g tabC → w.cell? ⟨g, a.toNat, none⟩ = some (.int .u32 (tabC.getD a.toNat 0 : Int))) := fun w g h => h.cell _ (by rw [TC.out]; exact byte_lt a)
  have CB : Hid (∀ (w : World) (g : Nat), ATab w g tabC → w.cell? ⟨g, b.toNat, none⟩ = some (.int .u32 (tabC.getD b.toNat 0 : Int))) := fun w g h => h.cell _ (by rw [TC.out]; exact byte_lt b)
  have CC : Hid (∀ (w : World) (g : Nat), ATab w g tabC → w.cell? ⟨g, (a ^^^ b).toNat, none⟩ = some (.int .u32 (tabC.getD (a ^^^ b).toNat 0 : Int))) := fun w g h => h.cell _ (by rw [TC.out]; exact byte_lt (a ^^^ b))
  generalize tabC.getD a.toNat 0 = ta at *
  generalize tabC.getD b.toNat 0 = tb at *
  generalize tabC.getD (a ^^^ b).toNat 0 = tx at *
  generalize a ^^^ b = ab at *
  generalize tabC = tc at *
  go_enter Try.func7, Try.ntmps7
  go_wp2_with fail
  refine (lives3_any _).mono ?_
  rintro e w1 ⟨rfl, hb1⟩
  have HB1 := Lib.hid hb1
  clear hb1
  go_wp2_with fail
  refine (ST.out _).mono ?_
  rintro e w2 ⟨rfl, hb2⟩
  have HB2 := Lib.hid (HB1.out.trans (hb2.mono HB1.out.size))
  clear hb2 HB1
  go_wp2_with (refine wpList_storeNew t0 T0.out tc TC.out rfl _ _ rfl rfl rfl ?_; intro w3 h2 h3 h4; have HB3 := Lib.hid (HB2.out.trans (h3.mono HB2.out.size)); clear HB2 h3 Z ST; have HA := Lib.hid h2; clear h2)
  have HL := Lib.hid (show Byt (w3.alloc (.cells #[.int .u8 (a.toNat : Int), .int .u8 (b.toNat : Int)] 5)).drew _ _ from (Byt.lit w3 5 [a, b] (0, 0) (by simp [maxLen])).drew)
  have HA4 := Lib.hid (show ATab (w3.alloc (.cells #[.int .u8 (a.toNat : Int), .int .u8 (b.toNat : Int)] 5)).drew w2.heap.size tc from HA.out.alloc _)
  have HB4 := Lib.hid (show Below w.heap.size w (w3.alloc (.cells #[.int .u8 (a.toNat : Int), .int .u8 (b.toNat : Int)] 5)).drew from (HB3.out.alloc (HB3.out.size) _).drew)
  clear HA HB3 h4
  simp only [List.append_eq, List.cons_append, List.nil_append]
  refine wp_region_R (R := fun x y => Below x.heap.size x y) (by kernel_rfl) (fun _ => Below.refl _ _) (fun h k => h.trans (k.mono h.size)) (by kernel_rfl) (fun d v c a w h => by cases d <;> exact h)
    [(0, false), (1, false), (2, false), (3, false), (4, false), (5, false), (6, false), (7, false), (8, false), (9, false), (10, false), (11, false), (12, false), (13, false), (14, false), (15, false), (16, false), (18, false), (19, false), (20, false), (23, false), (24, false), (25, false), (17, true), (21, true), (22, false), (26, false), (27, false), (28, false), (29, false), (30, false), (31, false), (33, false), (34, false), (35, false), (38, false), (39, false), (40, false), (32, true), (36, true), (37, false), (41, false), (42, false), (43, false), (44, false), (45, false), (46, false), (47, false), (48, false), (50, false), (51, false), (53, false), (54, false), (55, false), (49, true), (52, true), (56, true), (57, false), (58, false), (59, false), (60, false), (61, false), (63, false), (62, true), (64, false), (65, false), (66, false)] rfl (by kernel_rfl) (by kernel_rfl) ?_
  simp only [sel, List.getElem?_toArray, List.getElem?_cons_succ, List.getElem?_cons_zero]
  generalize (w3.alloc (.cells #[.int .u8 (a.toNat : Int), .int .u8 (b.toNat : Int)] 5)).drew = wd at *
  have HP := Lib.hid (HL.out.upto (k := 1) (by simp))
  have hq : Byt wd (.slice (some ⟨w3.heap.size, 1, none⟩) 1 1) [b] := by
    have := HL.out.cut (k := 1) (by simp)
    simpa [plainAdd] using this
  have HQ := Lib.hid hq
  clear hq
  iterate 4 (refine sch_take ?_ rfl ?_ ?_; rotate_left; (focus (intro u hu; go_simp <;> rfl)); simp only [Act.put, List.setIfInBounds_toArray, List.set_cons_zero, List.set_cons_succ])
  (refine sch_take ?_ rfl ?_ ?_; rotate_left; (focus (intro u hu; have c := CC.out _ _ (HA4.out.below hu); clear hu; go_simp <;> rfl)); simp only [Act.put, List.setIfInBounds_toArray, List.set_cons_zero, List.set_cons_succ])
  iterate 2 (refine sch_take ?_ rfl ?_ ?_; rotate_left; (focus (intro u hu; go_simp <;> rfl)); simp only [Act.put, List.setIfInBounds_toArray, List.set_cons_zero, List.set_cons_succ])
  (refine sch_take ?_ rfl ?_ ?_; rotate_left; (focus (intro u hu; have c := CA.out _ _ (HA4.out.below hu); clear hu; go_simp <;> rfl)); simp only [Act.put, List.setIfInBounds_toArray, List.set_cons_zero, List.set_cons_succ])
  iterate 2 (refine sch_take ?_ rfl ?_ ?_; rotate_left; (focus (intro u hu; go_simp <;> rfl)); simp only [Act.put, List.setIfInBounds_toArray, List.set_cons_zero, List.set_cons_succ])
  (refine sch_take ?_ rfl ?_ ?_; rotate_left; (focus (intro u hu; have c := CB.out _ _ (HA4.out.below hu); clear hu; go_simp <;> rfl)); simp only [Act.put, List.setIfInBounds_toArray, List.set_cons_zero, List.set_cons_succ])
  iterate 3 (refine sch_take ?_ rfl ?_ ?_; rotate_left; (focus (intro u hu; go_simp <;> rfl)); simp only [Act.put, List.setIfInBounds_toArray, List.set_cons_zero, List.set_cons_succ])
  refine sch_take _ rfl (fun u hu => exec_loadTab _ rfl _ rfl (HA4.out.below hu) TC.out) ?_
  simp only [Act.put, List.setIfInBounds_toArray, List.set_cons_zero, List.set_cons_succ]
  iterate 2 (refine sch_take ?_ rfl ?_ ?_; rotate_left; (focus (intro u hu; go_simp <;> rfl)); simp only [Act.put, List.setIfInBounds_toArray, List.set_cons_zero, List.set_cons_succ])
  refine sch_take _ rfl (fun u hu => exec_loadTab _ rfl _ rfl (HA4.out.below hu) TC.out) ?_
  simp only [Act.put, List.setIfInBounds_toArray, List.set_cons_zero, List.set_cons_succ]
  iterate 5 (refine sch_take ?_ rfl ?_ ?_; rotate_left; (focus (intro u hu; go_simp <;> rfl)); simp only [Act.put, List.setIfInBounds_toArray, List.set_cons_zero, List.set_cons_succ])
  refine sch_call rfl ?_
  intro K hK
  go_simp
  refine (V1.out _).mono ?_
  rintro e y1 ⟨rfl, hb⟩
  go_wp2_with fail
  refine hK _ _ hb ?_
  clear hK K
  have HA4 := Lib.hid (HA4.out.below hb)
  have HL := Lib.hid (HL.out.below hb)
  have HP := Lib.hid (HP.out.below hb)
  have HQ := Lib.hid (HQ.out.below hb)
  have HB4 := Lib.hid (HB4.out.trans (hb.mono HB4.out.size))
  clear hb
  refine sch_call rfl ?_
  intro K hK
  go_simp
  refine (V2.out _).mono ?_
  rintro e y2 ⟨rfl, hb⟩
  go_wp2_with fail
  refine hK _ _ hb ?_
  clear hK K
  have HA4 := Lib.hid (HA4.out.below hb)
  have HL := Lib.hid (HL.out.below hb)
  have HP := Lib.hid (HP.out.below hb)
  have HQ := Lib.hid (HQ.out.below hb)
  have HB4 := Lib.hid (HB4.out.trans (hb.mono HB4.out.size))
  clear hb
  iterate 4 (refine sch_take ?_ rfl ?_ ?_; rotate_left; (focus (intro u hu; go_simp <;> rfl)); simp only [Act.put, List.setIfInBounds_toArray, List.set_cons_zero, List.set_cons_succ])
  refine sch_take _ rfl (fun u hu => exec_loadTab _ rfl _ rfl (HA4.out.below hu) TC.out) ?_
  simp only [Act.put, List.setIfInBounds_toArray, List.set_cons_zero, List.set_cons_succ]
  iterate 2 (refine sch_take ?_ rfl ?_ ?_; rotate_left; (focus (intro u hu; go_simp <;> rfl)); simp only [Act.put, List.setIfInBounds_toArray, List.set_cons_zero, List.set_cons_succ])
  refine sch_take _ rfl (fun u hu => exec_loadTab _ rfl _ rfl (HA4.out.below hu) TC.out) ?_
  simp only [Act.put, List.setIfInBounds_toArray, List.set_cons_zero, List.set_cons_succ]
  iterate 5 (refine sch_take ?_ rfl ?_ ?_; rotate_left; (focus (intro u hu; go_simp <;> rfl)); simp only [Act.put, List.setIfInBounds_toArray, List.set_cons_zero, List.set_cons_succ])
  refine sch_call rfl ?_
  intro K hK
  go_simp
  refine (V1.out _).mono ?_
  rintro e y3 ⟨rfl, hb⟩
  go_wp2_with fail
  refine hK _ _ hb ?_
  clear hK K
  have HA4 := Lib.hid (HA4.out.below hb)
  have HL := Lib.hid (HL.out.below hb)
  have HP := Lib.hid (HP.out.below hb)
  have HQ := Lib.hid (HQ.out.below hb)
  have HB4 := Lib.hid (HB4.out.trans (hb.mono HB4.out.size))
  clear hb
  refine sch_call rfl ?_
  intro K hK
  go_simp
  refine (V3.out _).mono ?_
  rintro e y4 ⟨rfl, hb⟩
  go_wp2_with fail
  refine hK _ _ hb ?_
  clear hK K
  have HA4 := Lib.hid (HA4.out.below hb)
  have HL := Lib.hid (HL.out.below hb)
  have HP := Lib.hid (HP.out.below hb)
  have HQ := Lib.hid (HQ.out.below hb)
  have HB4 := Lib.hid (HB4.out.trans (hb.mono HB4.out.size))
  clear hb
  iterate 4 (refine sch_take ?_ rfl ?_ ?_; rotate_left; (focus (intro u hu; go_simp <;> rfl)); simp only [Act.put, List.setIfInBounds_toArray, List.set_cons_zero, List.set_cons_succ])
  refine sch_take _ rfl (fun u hu => exec_loadTab _ rfl _ rfl (HA4.out.below hu) TC.out) ?_
  simp only [Act.put, List.setIfInBounds_toArray, List.set_cons_zero, List.set_cons_succ]
  refine sch_take _ rfl (fun u hu => exec_loadTab _ rfl _ rfl (HA4.out.below hu) TC.out) ?_
  simp only [Act.put, List.setIfInBounds_toArray, List.set_cons_zero, List.set_cons_succ]
  iterate 5 (refine sch_take ?_ rfl ?_ ?_; rotate_left; (focus (intro u hu; go_simp <;> rfl)); simp only [Act.put, List.setIfInBounds_toArray, List.set_cons_zero, List.set_cons_succ])
  refine sch_take _ rfl (fun u hu => exec_loadTab _ rfl _ rfl (HA4.out.below hu) TC.out) ?_
  simp only [Act.put, List.setIfInBounds_toArray, List.set_cons_zero, List.set_cons_succ]
  iterate 2 (refine sch_take ?_ rfl ?_ ?_; rotate_left; (focus (intro u hu; go_simp <;> rfl)); simp only [Act.put, List.setIfInBounds_toArray, List.set_cons_zero, List.set_cons_succ])
  refine sch_call rfl ?_
  intro K hK
  go_simp
  refine (O1.out _ _ HP.out).mono ?_
  rintro e y5 ⟨rfl, hb⟩
  go_wp2_with fail
  refine hK _ _ hb ?_
  clear hK K
  have HA4 := Lib.hid (HA4.out.below hb)
  have HL := Lib.hid (HL.out.below hb)
  have HP := Lib.hid (HP.out.below hb)
  have HQ := Lib.hid (HQ.out.below hb)
  have HB4 := Lib.hid (HB4.out.trans (hb.mono HB4.out.size))
  clear hb
  refine sch_call rfl ?_
  intro K hK
  go_simp
  refine (O2.out _ _ HQ.out).mono ?_
  rintro e y6 ⟨rfl, hb⟩
  go_wp2_with fail
  refine hK _ _ hb ?_
  clear hK K
  have HA4 := Lib.hid (HA4.out.below hb)
  have HL := Lib.hid (HL.out.below hb)
  have HP := Lib.hid (HP.out.below hb)
  have HQ := Lib.hid (HQ.out.below hb)
  have HB4 := Lib.hid (HB4.out.trans (hb.mono HB4.out.size))
  clear hb
  refine sch_call rfl ?_
  intro K hK
  go_simp
  refine (O3.out _ _ HL.out).mono ?_
  rintro e y7 ⟨rfl, hb⟩
  go_wp2_with fail
  refine hK _ _ hb ?_
  clear hK K
  have HA4 := Lib.hid (HA4.out.below hb)
  have HL := Lib.hid (HL.out.below hb)
  have HP := Lib.hid (HP.out.below hb)
  have HQ := Lib.hid (HQ.out.below hb)
  have HB4 := Lib.hid (HB4.out.trans (hb.mono HB4.out.size))
  clear hb
  iterate 3 (refine sch_take ?_ rfl ?_ ?_; rotate_left; (focus (intro u hu; go_simp <;> rfl)); simp only [Act.put, List.setIfInBounds_toArray, List.set_cons_zero, List.set_cons_succ])
  refine sch_take _ rfl (fun u hu => exec_loadTab _ rfl _ rfl (HA4.out.below hu) TC.out) ?_
  simp only [Act.put, List.setIfInBounds_toArray, List.set_cons_zero, List.set_cons_succ]
  iterate 2 (refine sch_take ?_ rfl ?_ ?_; rotate_left; (focus (intro u hu; go_simp <;> rfl)); simp only [Act.put, List.setIfInBounds_toArray, List.set_cons_zero, List.set_cons_succ])
  refine sch_call rfl ?_
  intro K hK
  go_simp
  refine (O4.out _).mono ?_
  rintro e y8 ⟨rfl, hb⟩
  go_wp2_with fail
  refine hK _ _ hb ?_
  clear hK K
  have HA4 := Lib.hid (HA4.out.below hb)
  have HL := Lib.hid (HL.out.below hb)
  have HP := Lib.hid (HP.out.below hb)
  have HQ := Lib.hid (HQ.out.below hb)
  have HB4 := Lib.hid (HB4.out.trans (hb.mono HB4.out.size))
  clear hb
  iterate 3 (refine sch_take ?_ rfl ?_ ?_; rotate_left; (focus (intro u hu; go_simp <;> rfl)); simp only [Act.put, List.setIfInBounds_toArray, List.set_cons_zero, List.set_cons_succ])
  refine sch_nil ?_
  go_wp2_with fail
  go_ret
  exact ⟨rfl, HB4.out⟩

set_option maxRecDepth 100000 in
theorem lifted (os : Os) (started : os.Started) (H : Type) (enc : TypeId × Value → H) :
    ReturnsInHanded {} Try.checked os 7 .any (Rows.crcTablesSpec.pre6 enc Try.prog Try.f7 Rows.crcTablesRow.domain false) (Rows.crcTablesSpec.post enc Try.prog Try.f7 false true false false) := by
  refine returnsInHanded_of_change (C := Try.checked) ownKnobs started (by kernel_rfl) Try.func7
    (ChangeSpec.witness6 (enc := enc) (C := Try.checked) false ⟨#[], #[.int .u8 0, .int .u8 0, .int .u32 0, .int .u32 0], []⟩ 8 (by kernel_rfl) (by kernel_rfl) (by kernel_rfl) (by kernel_rfl)) ?_
  intro W base args ds gs before hval0 hW hcnd _
  have hval : ∀ (j : Nat) t v, Try.f7.params[j]? = some t → args[j]? = some v → Value.okWide Try.prog W .any base t v := hval0
  have hW' := hW
  obtain ⟨p, q, hA0, hV, rfl, hfz, hnd⟩ := hW
  have hA : DataW.TrodAll enc Try.prog W 0 (fun _ => true) true Try.f7.params.toList args.toList ds p := hA0
  rw [Try.params7] at hA hval
  obtain ⟨v0, vs0, d0, ds0, p0, q0, hargs, rfl, rfl, h0, r0⟩ := trodAll_cons hA
  obtain ⟨v1, vs1, d1, ds1, p1, q1, rfl, rfl, rfl, h1, r1⟩ := trodAll_cons r0
  obtain ⟨v2, vs2, d2, ds2, p2, q2, rfl, rfl, rfl, h2, r2⟩ := trodAll_cons r1
  obtain ⟨v3, vs3, d3, ds3, p3, q3, rfl, rfl, rfl, h3, r3⟩ := trodAll_cons r2
  obtain ⟨rfl, rfl, rfl⟩ := trodAll_nil r3
  obtain rfl : args = #[v0, v1, v2, v3] := by cases args; simp_all
  obtain ⟨rfl, rfl⟩ := trodVars_none hV
  obtain ⟨a0, rfl, rfl, rfl, w0⟩ := open_int Try.underlying5 (hval 0 5 v0 rfl rfl) h0
  obtain ⟨n0, rfl⟩ := open_u8 w0
  obtain ⟨a1, rfl, rfl, rfl, w1⟩ := open_int Try.underlying5 (hval 1 5 v1 rfl rfl) h1
  obtain ⟨n1, rfl⟩ := open_u8 w1
  obtain ⟨a2, rfl, rfl, rfl, w2⟩ := open_int Try.underlying23 (hval 2 23 v2 rfl rfl) h2
  obtain ⟨n2, rfl, b2⟩ := open_u32 w2
  obtain ⟨a3, rfl, rfl, rfl, w3⟩ := open_int Try.underlying23 (hval 3 23 v3 rfl rfl) h3
  obtain ⟨n3, rfl, b3⟩ := open_u32 w3
  clear hA0 hval0
  refine (walk W n0 n1 n2 n3 b2 b3).mono fun e W' ⟨he, bel⟩ => ?_
  subst he
  exact ⟨_, rfl, _, _, _, [], _, [], hW', trodAll_mk1 (shut_bool Try.underlying4 _), (trodAll_cons_mk (shut_int Try.underlying5 w0) (trodAll_cons_mk (shut_int Try.underlying5 w1) (trodAll_cons_mk (shut_int Try.underlying23 w2) (trodAll_cons_mk (shut_int Try.underlying23 w3) trodAll_mk0)))), rfl, bel.frame _, fun h => by cases h⟩

theorem over : Rows.crcTablesRow.holds Try.pinned (OpenSpec.ofChange Rows.crcTablesSpec) :=
  OpenClaim.holds_of_wide 7 Try.f7 rfl rfl rfl rfl rfl rfl rfl ⟨rfl, rfl, rfl, rfl, rfl⟩ rfl rfl rfl rfl rfl (by kernel_rfl) Try.func7 (by kernel_rfl)
    (of_decide_eq_true (by kernel_rfl)) (by unfold Func.isWrapper; first | (rw [if_pos (by decide +kernel)]; kernel_rfl) | (rw [if_neg (by decide +kernel)]; exact ⟨rfl, rfl⟩))
    (fun os started H enc _ => lifted os started H enc)

theorem proved : Rows.CrcTablesSaid := over
#print axioms proved
end Go.Proofs.Ythabjfnaghdenaa.crcTables
