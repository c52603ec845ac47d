/-
  The statement CrcSums: sums, tables and steps are what the document says. Conditions: none.
-/
import Derived.Test.YthabjfnaghdenaaLives3
import Derived.Test.YthabjfnaghdenaaRef3
import Derived.Test.YthabjfnaghdenaaTab2
import Derived.Test.YthabjfnaghdenaaOrd
namespace Go.Proofs.Ythabjfnaghdenaa.crcSums
open Go.ChangeShapes Go.WideShapes Go.ChangeAt Go.RowKit
set_option linter.unusedVariables false

set_option maxRecDepth 100000 in
set_option maxHeartbeats 4000000 in
theorem walk_long (w : World) (v : Value) (l : List UInt8) (s : Nat) (x : UInt8) (t : List Nat) (hv : Byt w v l) (hl : 3000 < l.length) :
    Calls Try.prog 4 #[v, .int .u32 (s : Int), .int .u8 (x.toNat : Int), .agg (tabV t)] w fun e w' => e = .returned (.bool true) ∧ Below w.heap.size w w' := by
  obtain ⟨A, m, c, rfl, N, hnc, hcm⟩ := hv.form
  have hm : (3000 : Int) < (m : Int) := by have := N.out; omega
  clear hv hl
  go_enter Try.func4, Try.ntmps4
  go_wp2_with fail
  refine (lives3_any _).mono ?_
  rintro e w1 ⟨rfl, hb1⟩
  go_wp2_with fail
  go_ret
  exact ⟨rfl, (below_new w _).trans (hb1.mono (by simp))⟩

set_option maxRecDepth 100000 in
set_option maxHeartbeats 8000000 in
theorem walk_short (w : World) (v : Value) (l : List UInt8) (s : Nat) (x : UInt8) (t : List Nat) (hv : Byt w v l) (hs : s < 4294967296) (ht : Tab t) (hl : l.length ≤ 3000) :
    Calls Try.prog 4 #[v, .int .u32 (s : Int), .int .u8 (x.toNat : Int), .agg (tabV t)] w fun e w' => e = .returned (.bool true) ∧ Below w.heap.size w w' := by
  have HV0 := Lib.hid (hv.alloc (.cells (tabV t) 25))
  have HA0 := Lib.hid (ATab.new w t)
  obtain ⟨A, m, c, rfl, N, hnc, hcm⟩ := hv.form
  have hm : ¬ (3000 : Int) < (m : Int) := by have := N.out; omega
  have K1 := Lib.hid (fun w v hv => kitown_any w v l hv (by omega))
  have S1 := Lib.hid (fun w v hv => crcsum_any w v l hv (by omega))
  have S2 := Lib.hid (fun w v hv => refsum_any w v l hv (by omega))
  have T1 := Lib.hid (fun w => crctable_any w)
  have T2 := Lib.hid (fun w => reftable_any w)
  have P1 := Lib.hid (fun w => crcstep_any w t s x ht hs)
  have P2 := Lib.hid (fun w => refstep_any w t s x ht hs)
  have O1 := Lib.hid (fun w v hv => crcon_any w t s v l ht hs hv (by omega))
  have O2 := Lib.hid (fun w v hv => refon_any w t s v l ht hs hv (by omega))
  have TC := Lib.hid tabC_tab.1
  have TT := Lib.hid ht.1
  generalize sumC l = y0 at *
  generalize stepC t s x = y1 at *
  generalize onC t s l = y2 at *
  generalize tabC = tc at *
  clear hv hs ht hl
  go_enter Try.func4, Try.ntmps4
  go_wp2_with fail
  refine (lives3_any _).mono ?_
  rintro e w1 ⟨rfl, hb1⟩
  have HV := Lib.hid (show Byt w1.drew _ _ from (HV0.out.below hb1).drew)
  have HA := Lib.hid (show ATab w1.drew _ _ from HA0.out.below hb1.drew)
  have HB := Lib.hid (show Below w.heap.size w w1.drew from ((below_new w _).trans (hb1.mono (by simp))).drew)
  clear hb1 HV0 HA0
  go_wp2_with fail
  refine wp_region_R (R := fun x y => Below x.heap.size x y) (by kernel_rfl) (fun _ => Below.refl _ _) (fun h k => h.trans (k.mono h.size)) (by kernel_rfl) (fun d v c a w h => by cases d <;> exact h)
    [(0, false), (3, false), (1, true), (2, true), (4, true), (5, false), (6, false), (7, true), (8, true), (9, false), (10, false), (11, false), (12, false), (13, false), (14, false), (16, false), (17, false), (18, false), (15, true), (19, true), (20, false), (21, false), (22, false), (23, false), (24, false), (25, false), (28, false), (29, false), (30, false), (26, true), (27, true), (31, true), (32, false), (33, false), (34, false)] rfl (by kernel_rfl) (by kernel_rfl) ?_
  simp only [sel, List.getElem?_toArray, List.getElem?_cons_succ, List.getElem?_cons_zero]
  generalize w1.drew = wd at *
  iterate 2 (refine sch_take ?_ rfl ?_ ?_; rotate_left; (focus (intro u hu; go_simp <;> rfl)); simp only [Act.put, List.setIfInBounds_toArray, List.set_cons_zero, List.set_cons_succ])
  refine sch_call rfl ?_
  intro K hK
  go_simp
  refine (K1.out _ _ HV.out).mono ?_
  rintro e y1 ⟨z1, rfl, ho, hb⟩
  go_wp2_with fail
  refine hK _ _ hb ?_
  clear hK K
  have HO := Lib.hid ho.byt
  clear ho
  have HA := Lib.hid (HA.out.below hb)
  have HV := Lib.hid (HV.out.below hb)
  have HB := Lib.hid (HB.out.trans (hb.mono HB.out.size))
  clear hb
  refine sch_call rfl ?_
  intro K hK
  go_simp
  refine (S1.out _ _ HO.out).mono ?_
  rintro e y2 ⟨rfl, hb⟩
  go_wp2_with fail
  refine hK _ _ hb ?_
  clear hK K
  have HA := Lib.hid (HA.out.below hb)
  have HV := Lib.hid (HV.out.below hb)
  have HB := Lib.hid (HB.out.trans (hb.mono HB.out.size))
  clear hb
  refine sch_call rfl ?_
  intro K hK
  go_simp
  refine (S2.out _ _ HV.out).mono ?_
  rintro e y3 ⟨rfl, hb⟩
  go_wp2_with fail
  refine hK _ _ hb ?_
  clear hK K
  have HA := Lib.hid (HA.out.below hb)
  have HV := Lib.hid (HV.out.below hb)
  have HB := Lib.hid (HB.out.trans (hb.mono HB.out.size))
  clear hb
  iterate 2 (refine sch_take ?_ rfl ?_ ?_; rotate_left; (focus (intro u hu; go_simp <;> rfl)); simp only [Act.put, List.setIfInBounds_toArray, List.set_cons_zero, List.set_cons_succ])
  refine sch_call rfl ?_
  intro K hK
  go_simp
  refine (T1.out _).mono ?_
  rintro e y4 ⟨rfl, hb⟩
  go_wp2_with fail
  refine hK _ _ hb ?_
  clear hK K
  have HA := Lib.hid (HA.out.below hb)
  have HV := Lib.hid (HV.out.below hb)
  have HB := Lib.hid (HB.out.trans (hb.mono HB.out.size))
  clear hb
  refine sch_call rfl ?_
  intro K hK
  go_simp
  refine (T2.out _).mono ?_
  rintro e y5 ⟨rfl, hb⟩
  go_wp2_with fail
  refine hK _ _ hb ?_
  clear hK K
  have HA := Lib.hid (HA.out.below hb)
  have HV := Lib.hid (HV.out.below hb)
  have HB := Lib.hid (HB.out.trans (hb.mono HB.out.size))
  clear hb
  refine sch_take _ rfl (fun u hu => exec_eqTab _ _ rfl rfl rfl TC.out) ?_
  simp only [Act.put, List.setIfInBounds_toArray, List.set_cons_zero, List.set_cons_succ]
  iterate 2 (refine sch_take ?_ rfl ?_ ?_; rotate_left; (focus (intro u hu; go_simp <;> rfl)); simp only [Act.put, List.setIfInBounds_toArray, List.set_cons_zero, List.set_cons_succ])
  refine sch_take _ rfl (fun u hu => exec_loadTab _ rfl _ rfl (HA.out.below hu) TT.out) ?_
  simp only [Act.put, List.setIfInBounds_toArray, List.set_cons_zero, List.set_cons_succ]
  iterate 2 (refine sch_take ?_ rfl ?_ ?_; rotate_left; (focus (intro u hu; go_simp <;> rfl)); simp only [Act.put, List.setIfInBounds_toArray, List.set_cons_zero, List.set_cons_succ])
  refine sch_take _ rfl (fun u hu => exec_loadTab _ rfl _ rfl (HA.out.below hu) TT.out) ?_
  simp only [Act.put, List.setIfInBounds_toArray, List.set_cons_zero, List.set_cons_succ]
  iterate 2 (refine sch_take ?_ rfl ?_ ?_; rotate_left; (focus (intro u hu; go_simp <;> rfl)); simp only [Act.put, List.setIfInBounds_toArray, List.set_cons_zero, List.set_cons_succ])
  refine sch_call rfl ?_
  intro K hK
  go_simp
  refine (P1.out _).mono ?_
  rintro e y6 ⟨rfl, hb⟩
  go_wp2_with fail
  refine hK _ _ hb ?_
  clear hK K
  have HA := Lib.hid (HA.out.below hb)
  have HV := Lib.hid (HV.out.below hb)
  have HB := Lib.hid (HB.out.trans (hb.mono HB.out.size))
  clear hb
  refine sch_call rfl ?_
  intro K hK
  go_simp
  refine (P2.out _).mono ?_
  rintro e y7 ⟨rfl, hb⟩
  go_wp2_with fail
  refine hK _ _ hb ?_
  clear hK K
  have HA := Lib.hid (HA.out.below hb)
  have HV := Lib.hid (HV.out.below hb)
  have HB := Lib.hid (HB.out.trans (hb.mono HB.out.size))
  clear hb
  iterate 3 (refine sch_take ?_ rfl ?_ ?_; rotate_left; (focus (intro u hu; go_simp <;> rfl)); simp only [Act.put, List.setIfInBounds_toArray, List.set_cons_zero, List.set_cons_succ])
  refine sch_take _ rfl (fun u hu => exec_loadTab _ rfl _ rfl (HA.out.below hu) TT.out) ?_
  simp only [Act.put, List.setIfInBounds_toArray, List.set_cons_zero, List.set_cons_succ]
  iterate 2 (refine sch_take ?_ rfl ?_ ?_; rotate_left; (focus (intro u hu; go_simp <;> rfl)); simp only [Act.put, List.setIfInBounds_toArray, List.set_cons_zero, List.set_cons_succ])
  refine sch_take _ rfl (fun u hu => exec_loadTab _ rfl _ rfl (HA.out.below hu) TT.out) ?_
  simp only [Act.put, List.setIfInBounds_toArray, List.set_cons_zero, List.set_cons_succ]
  iterate 2 (refine sch_take ?_ rfl ?_ ?_; rotate_left; (focus (intro u hu; go_simp <;> rfl)); simp only [Act.put, List.setIfInBounds_toArray, List.set_cons_zero, List.set_cons_succ])
  refine sch_call rfl ?_
  intro K hK
  go_simp
  refine (K1.out _ _ HV.out).mono ?_
  rintro e y8 ⟨z2, rfl, ho, hb⟩
  go_wp2_with fail
  refine hK _ _ hb ?_
  clear hK K
  have HO := Lib.hid ho.byt
  clear ho
  have HA := Lib.hid (HA.out.below hb)
  have HV := Lib.hid (HV.out.below hb)
  have HB := Lib.hid (HB.out.trans (hb.mono HB.out.size))
  clear hb
  refine sch_call rfl ?_
  intro K hK
  go_simp
  refine (O1.out _ _ HO.out).mono ?_
  rintro e y9 ⟨rfl, hb⟩
  go_wp2_with fail
  refine hK _ _ hb ?_
  clear hK K
  have HA := Lib.hid (HA.out.below hb)
  have HV := Lib.hid (HV.out.below hb)
  have HB := Lib.hid (HB.out.trans (hb.mono HB.out.size))
  clear hb
  refine sch_call rfl ?_
  intro K hK
  go_simp
  refine (O2.out _ _ HV.out).mono ?_
  rintro e y10 ⟨rfl, hb⟩
  go_wp2_with fail
  refine hK _ _ hb ?_
  clear hK K
  have HA := Lib.hid (HA.out.below hb)
  have HV := Lib.hid (HV.out.below hb)
  have HB := Lib.hid (HB.out.trans (hb.mono HB.out.size))
  clear hb
  iterate 3 (refine sch_take ?_ rfl ?_ ?_; rotate_left; (focus (intro u hu; go_simp <;> rfl)); simp only [Act.put, List.setIfInBounds_toArray, List.set_cons_zero, List.set_cons_succ])
  refine sch_nil ?_
  go_wp2_with fail
  go_ret
  exact ⟨rfl, HB.out⟩

theorem walk (w : World) (v : Value) (l : List UInt8) (s : Nat) (x : UInt8) (t : List Nat) (hv : Byt w v l) (hs : s < 4294967296) (ht : Tab t) :
    Calls Try.prog 4 #[v, .int .u32 (s : Int), .int .u8 (x.toNat : Int), .agg (tabV t)] w fun e w' => e = .returned (.bool true) ∧ Below w.heap.size w w' := by
  by_cases hl : 3000 < l.length
  · exact walk_long w v l s x t hv hl
  · exact walk_short w v l s x t hv hs ht (by omega)

set_option maxRecDepth 100000 in
theorem lifted (os : Os) (started : os.Started) (H : Type) (enc : TypeId × Value → H) :
    ReturnsInHanded {} Try.checked os 4 .any (Rows.crcSumsSpec.pre6 enc Try.prog Try.f4 Rows.crcSumsRow.domain false) (Rows.crcSumsSpec.post enc Try.prog Try.f4 false true false false) := by
  refine returnsInHanded_of_change (C := Try.checked) ownKnobs started (by kernel_rfl) Try.func4
    (ChangeSpec.witness6 (enc := enc) (C := Try.checked) false ⟨#[], #[.slice none 0 0, .int .u32 0, .int .u8 0, .agg (tabV (List.replicate 256 0))], []⟩ 8 (by kernel_rfl) (by kernel_rfl) (by kernel_rfl) (by kernel_rfl)) ?_
  intro W base args ds gs before hval0 hW hcnd _
  have hval : ∀ (j : Nat) t v, Try.f4.params[j]? = some t → args[j]? = some v → Value.okWide Try.prog W .any base t v := hval0
  have hW' := hW
  obtain ⟨p, q, hA0, hV, rfl, hfz, hnd⟩ := hW
  have hA : DataW.TrodAll enc Try.prog W 0 (fun _ => true) true Try.f4.params.toList args.toList ds p := hA0
  rw [Try.params4] at hA hval
  obtain ⟨v0, vs0, d0, ds0, p0, q0, hargs, rfl, rfl, h0, r0⟩ := trodAll_cons hA
  obtain ⟨v1, vs1, d1, ds1, p1, q1, rfl, rfl, rfl, h1, r1⟩ := trodAll_cons r0
  obtain ⟨v2, vs2, d2, ds2, p2, q2, rfl, rfl, rfl, h2, r2⟩ := trodAll_cons r1
  obtain ⟨v3, vs3, d3, ds3, p3, q3, rfl, rfl, rfl, h3, r3⟩ := trodAll_cons r2
  obtain ⟨rfl, rfl, rfl⟩ := trodAll_nil r3
  obtain rfl : args = #[v0, v1, v2, v3] := by cases args; simp_all
  obtain ⟨rfl, rfl⟩ := trodVars_none hV
  have k0 := h0
  have lt0 : ∀ x ∈ p0, x.block < W.heap.size := by obtain ⟨m, hm⟩ := k0; exact DataW.trod_lt m _ _ _ hm
  obtain ⟨l0, b0⟩ := open_bytes (hval 0 28 v0 rfl rfl) h0
  obtain ⟨a1, rfl, rfl, rfl, w1⟩ := open_int Try.underlying23 (hval 1 23 v1 rfl rfl) h1
  obtain ⟨n1, rfl, b1⟩ := open_u32 w1
  obtain ⟨a2, rfl, rfl, rfl, w2⟩ := open_int Try.underlying5 (hval 2 5 v2 rfl rfl) h2
  obtain ⟨n2, rfl⟩ := open_u8 w2
  have k3 := h3
  have lt3 : ∀ x ∈ p3, x.block < W.heap.size := by obtain ⟨m, hm⟩ := k3; exact DataW.trod_lt m _ _ _ hm
  obtain ⟨l3, rfl, b3⟩ := open_tab (hval 3 25 v3 rfl rfl) h3
  clear hA0 hval0
  refine (walk W v0 l0 n1 n2 l3 b0 b1 b3).mono fun e W' ⟨he, bel⟩ => ?_
  subst he
  exact ⟨_, rfl, _, _, _, [], _, [], hW', trodAll_mk1 (shut_bool Try.underlying4 _), (trodAll_cons_mk (Below.trod laidOuts (by kernel_rfl) (of_decide_eq_true (by kernel_rfl)) k0 bel lt0) (trodAll_cons_mk (shut_int Try.underlying23 w1) (trodAll_cons_mk (shut_int Try.underlying5 w2) (trodAll_cons_mk (Below.trod laidOuts (by kernel_rfl) (of_decide_eq_true (by kernel_rfl)) k3 bel lt3) trodAll_mk0)))), rfl, bel.frame _, fun h => by cases h⟩

theorem over : Rows.crcSumsRow.holds Try.pinned (OpenSpec.ofChange Rows.crcSumsSpec) :=
  OpenClaim.holds_of_wide 4 Try.f4 rfl rfl rfl rfl rfl rfl rfl ⟨rfl, rfl, rfl, rfl, rfl⟩ rfl rfl rfl rfl rfl (by kernel_rfl) Try.func4 (by kernel_rfl)
    (of_decide_eq_true (by kernel_rfl)) (by unfold Func.isWrapper; first | (rw [if_pos (by decide +kernel)]; kernel_rfl) | (rw [if_neg (by decide +kernel)]; exact ⟨rfl, rfl⟩))
    (fun os started H enc _ => lifted os started H enc)

theorem proved : Rows.CrcSumsSaid := over
#print axioms proved
end Go.Proofs.Ythabjfnaghdenaa.crcSums
