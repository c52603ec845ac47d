/-
  The statement SpaceNames: the chapter's examples come out as it tells. Conditions: none.
-/
import Derived.Test.YtncjobeahpjnpaaSpK
namespace Go.Proofs.Ytncjobeahpjnpaa.spaceNames
open Go.ChangeShapes Go.WideShapes Go.ChangeAt Go.RowKit Go.Maps
set_option maxRecDepth 100000
set_option linter.unusedVariables false

def L9 : List Bool := [true, true, false, false, false, false, false, false, false]
theorem q1 : spNew 7 = (0, [], 2) := by decide +kernel
theorem q2 : spNew 9 = (9, L9, 0) := by decide +kernel
theorem q3 : spUse 9 L9 1 = (0, [], 7) := by decide +kernel
theorem q4 : spGive 9 L9 1 = (0, [], 2) := by decide +kernel
theorem q5 : spGive 9 L9 2 = (0, [], 6) := by decide +kernel
theorem q6 : spUse 9 L9 9 = (0, [], 2) := by decide +kernel
theorem q7 : spBoth 9 L9 8 L0 = (0, [], 2) := by decide +kernel
theorem q8 : spFreeC 9 L9 = [2, 3, 4, 5, 6, 7, 8] := by decide +kernel
theorem q9 : spFreeC 0 [] = [] := by decide +kernel
theorem q10 : ¬ spOk 0 [] := by decide +kernel
theorem q11 : decide ((9 : Int) = 9 ∧ L9 = L9) = true := by decide +kernel
theorem q12 : decide ((9 : Int) = 8 ∧ L9 = L0) = false := by decide +kernel
set_option maxRecDepth 100000 in
set_option maxHeartbeats 8000000 in
theorem walk (w : World) : Calls Try.prog 3 #[] w fun e w' => e = .returned (.bool true) ∧ Below w.heap.size w w' := by
  go_enter Try.func3, Try.ntmps3
  go_wp2_with fail
  refine (q1 ▸ spNew_any w 7).mono ?_
  rintro e v0 ⟨x0, rfl, hx0, hb0⟩
  obtain ⟨A0, n0, c0, rfl, _, _, _⟩ := hx0.boos.form
  obtain ⟨w1, hw1⟩ : ∃ u, v0.alloc (.cells #[.int .i64 0, .slice A0 n0 c0] 24) = u := ⟨_, rfl⟩
  have hv0 : Below w.heap.size w w1 := hw1 ▸ hb0.alloc hb0.size _
  have HW1 := Lib.hid hw1
  have HB1 : Hid (Below w.heap.size w w1) := hv0
  clear hx0 hb0 hv0 hw1
  go_wp2_with fail
  rw [HW1.out]
  refine (q2 ▸ spNew_any w1 9).mono ?_
  rintro e v1 ⟨x1, rfl, hx1, hb1⟩
  obtain ⟨A1, n1, c1, rfl, _, _, _⟩ := hx1.boos.form
  obtain ⟨w2, hw2⟩ : ∃ u, v1.alloc (.cells #[.int .i64 9, .slice A1 n1 c1] 24) = u := ⟨_, rfl⟩
  have hv1 : Below w1.heap.size w1 w2 := hw2 ▸ hb1.alloc hb1.size _
  have HW2 := Lib.hid hw2
  have HB2 : Hid (Below w.heap.size w w2) := HB1.out.trans (hv1.mono HB1.out.size)
  have HSs2 : Hid (SpBox w2 v1.heap.size 9 (.slice A1 n1 c1)) := hw2 ▸ SBox.new v1 24 [.int .i64 9, .slice A1 n1 c1]
  have HXs2 : Hid (Boos w2 (.slice A1 n1 c1) L9) := hw2 ▸ Rowz.alloc hx1.boos _
  clear hx1 hb1 hv1 hw2
  go_wp2_with fail
  rw [HW2.out]
  refine (q3 ▸ spUse_any w2 9 _ L9 1 HXs2.out (by decide)).mono ?_
  rintro e v2 ⟨x2, rfl, hx2, hb2⟩
  obtain ⟨A2, n2, c2, rfl, _, _, _⟩ := hx2.boos.form
  obtain ⟨w3, hw3⟩ : ∃ u, v2.alloc (.cells #[.int .i64 0, .slice A2 n2 c2] 24) = u := ⟨_, rfl⟩
  have hv2 : Below w2.heap.size w2 w3 := hw3 ▸ hb2.alloc hb2.size _
  have HW3 := Lib.hid hw3
  have HB3 : Hid (Below w.heap.size w w3) := HB2.out.trans (hv2.mono HB2.out.size)
  have HSs3 : Hid (SpBox w3 v1.heap.size 9 (.slice A1 n1 c1)) := HSs2.out.below hv2
  have HXs3 : Hid (Boos w3 (.slice A1 n1 c1) L9) := HXs2.out.below hv2
  clear hx2 hb2 hv2 hw3
  have ps3 : (v2.alloc (.cells #[.int .i64 0, .slice A2 n2 c2] 24)).cell? ⟨v1.heap.size, 0, none⟩ = some (.int .i64 9) := by rw [HW3.out]; exact HSs3.out.c0
  have rs3 : (v2.alloc (.cells #[.int .i64 0, .slice A2 n2 c2] 24)).cell? ⟨v1.heap.size, 1, none⟩ = some (.slice A1 n1 c1) := by rw [HW3.out]; exact HSs3.out.c1
  go_wp2_with fail
  rw [HW3.out]
  clear ps3 rs3
  refine (q4 ▸ spGive_any w3 9 _ L9 1 HXs3.out (by decide)).mono ?_
  rintro e v3 ⟨x3, rfl, hx3, hb3⟩
  obtain ⟨A3, n3, c3, rfl, _, _, _⟩ := hx3.boos.form
  obtain ⟨w4, hw4⟩ : ∃ u, v3.alloc (.cells #[.int .i64 0, .slice A3 n3 c3] 24) = u := ⟨_, rfl⟩
  have hv3 : Below w3.heap.size w3 w4 := hw4 ▸ hb3.alloc hb3.size _
  have HW4 := Lib.hid hw4
  have HB4 : Hid (Below w.heap.size w w4) := HB3.out.trans (hv3.mono HB3.out.size)
  have HSs4 : Hid (SpBox w4 v1.heap.size 9 (.slice A1 n1 c1)) := HSs3.out.below hv3
  have HXs4 : Hid (Boos w4 (.slice A1 n1 c1) L9) := HXs3.out.below hv3
  clear hx3 hb3 hv3 hw4
  have ps4 : (v3.alloc (.cells #[.int .i64 0, .slice A3 n3 c3] 24)).cell? ⟨v1.heap.size, 0, none⟩ = some (.int .i64 9) := by rw [HW4.out]; exact HSs4.out.c0
  have rs4 : (v3.alloc (.cells #[.int .i64 0, .slice A3 n3 c3] 24)).cell? ⟨v1.heap.size, 1, none⟩ = some (.slice A1 n1 c1) := by rw [HW4.out]; exact HSs4.out.c1
  go_wp2_with fail
  rw [HW4.out]
  clear ps4 rs4
  refine (q5 ▸ spGive_any w4 9 _ L9 2 HXs4.out (by decide)).mono ?_
  rintro e v4 ⟨x4, rfl, hx4, hb4⟩
  obtain ⟨A4, n4, c4, rfl, _, _, _⟩ := hx4.boos.form
  obtain ⟨w5, hw5⟩ : ∃ u, v4.alloc (.cells #[.int .i64 0, .slice A4 n4 c4] 24) = u := ⟨_, rfl⟩
  have hv4 : Below w4.heap.size w4 w5 := hw5 ▸ hb4.alloc hb4.size _
  have HW5 := Lib.hid hw5
  have HB5 : Hid (Below w.heap.size w w5) := HB4.out.trans (hv4.mono HB4.out.size)
  have HSs5 : Hid (SpBox w5 v1.heap.size 9 (.slice A1 n1 c1)) := HSs4.out.below hv4
  have HXs5 : Hid (Boos w5 (.slice A1 n1 c1) L9) := HXs4.out.below hv4
  clear hx4 hb4 hv4 hw5
  have ps5 : (v4.alloc (.cells #[.int .i64 0, .slice A4 n4 c4] 24)).cell? ⟨v1.heap.size, 0, none⟩ = some (.int .i64 9) := by rw [HW5.out]; exact HSs5.out.c0
  have rs5 : (v4.alloc (.cells #[.int .i64 0, .slice A4 n4 c4] 24)).cell? ⟨v1.heap.size, 1, none⟩ = some (.slice A1 n1 c1) := by rw [HW5.out]; exact HSs5.out.c1
  go_wp2_with fail
  rw [HW5.out]
  clear ps5 rs5
  refine (q6 ▸ spUse_any w5 9 _ L9 9 HXs5.out (by decide)).mono ?_
  rintro e v5 ⟨x5, rfl, hx5, hb5⟩
  obtain ⟨A5, n5, c5, rfl, _, _, _⟩ := hx5.boos.form
  obtain ⟨w6, hw6⟩ : ∃ u, v5.alloc (.cells #[.int .i64 0, .slice A5 n5 c5] 24) = u := ⟨_, rfl⟩
  have hv5 : Below w5.heap.size w5 w6 := hw6 ▸ hb5.alloc hb5.size _
  have HW6 := Lib.hid hw6
  have HB6 : Hid (Below w.heap.size w w6) := HB5.out.trans (hv5.mono HB5.out.size)
  have HSs6 : Hid (SpBox w6 v1.heap.size 9 (.slice A1 n1 c1)) := HSs5.out.below hv5
  have HXs6 : Hid (Boos w6 (.slice A1 n1 c1) L9) := HXs5.out.below hv5
  clear hx5 hb5 hv5 hw6
  have ps6 : (v5.alloc (.cells #[.int .i64 0, .slice A5 n5 c5] 24)).cell? ⟨v1.heap.size, 0, none⟩ = some (.int .i64 9) := by rw [HW6.out]; exact HSs6.out.c0
  have rs6 : (v5.alloc (.cells #[.int .i64 0, .slice A5 n5 c5] 24)).cell? ⟨v1.heap.size, 1, none⟩ = some (.slice A1 n1 c1) := by rw [HW6.out]; exact HSs6.out.c1
  go_wp2_with fail
  rw [HW6.out]
  clear ps6 rs6
  refine (lives8_new ▸ spNew_any w6 8).mono ?_
  rintro e v6 ⟨x6, rfl, hx6, hb6⟩
  obtain ⟨A6, n6, c6, rfl, _, _, _⟩ := hx6.boos.form
  obtain ⟨w7, hw7⟩ : ∃ u, v6.alloc (.cells #[.int .i64 8, .slice A6 n6 c6] 24) = u := ⟨_, rfl⟩
  have hv6 : Below w6.heap.size w6 w7 := hw7 ▸ hb6.alloc hb6.size _
  have HW7 := Lib.hid hw7
  have HB7 : Hid (Below w.heap.size w w7) := HB6.out.trans (hv6.mono HB6.out.size)
  have HSs7 : Hid (SpBox w7 v1.heap.size 9 (.slice A1 n1 c1)) := HSs6.out.below hv6
  have HXs7 : Hid (Boos w7 (.slice A1 n1 c1) L9) := HXs6.out.below hv6
  have HSt7 : Hid (SpBox w7 v6.heap.size 8 (.slice A6 n6 c6)) := hw7 ▸ SBox.new v6 24 [.int .i64 8, .slice A6 n6 c6]
  have HXt7 : Hid (Boos w7 (.slice A6 n6 c6) L0) := hw7 ▸ Rowz.alloc hx6.boos _
  clear hx6 hb6 hv6 hw7
  have ps7 : (v6.alloc (.cells #[.int .i64 8, .slice A6 n6 c6] 24)).cell? ⟨v1.heap.size, 0, none⟩ = some (.int .i64 9) := by rw [HW7.out]; exact HSs7.out.c0
  have rs7 : (v6.alloc (.cells #[.int .i64 8, .slice A6 n6 c6] 24)).cell? ⟨v1.heap.size, 1, none⟩ = some (.slice A1 n1 c1) := by rw [HW7.out]; exact HSs7.out.c1
  go_wp2_with fail
  rw [HW7.out]
  clear ps7 rs7
  refine (q7 ▸ spBoth_any w7 9 8 _ _ L9 L0 HXs7.out HXt7.out (by decide) (by decide)).mono ?_
  rintro e v7 ⟨x7, rfl, hx7, hb7⟩
  obtain ⟨A7, n7, c7, rfl, _, _, _⟩ := hx7.boos.form
  obtain ⟨w8, hw8⟩ : ∃ u, v7.alloc (.cells #[.int .i64 0, .slice A7 n7 c7] 24) = u := ⟨_, rfl⟩
  have hv7 : Below w7.heap.size w7 w8 := hw8 ▸ hb7.alloc hb7.size _
  have HW8 := Lib.hid hw8
  have HB8 : Hid (Below w.heap.size w w8) := HB7.out.trans (hv7.mono HB7.out.size)
  have HSs8 : Hid (SpBox w8 v1.heap.size 9 (.slice A1 n1 c1)) := HSs7.out.below hv7
  have HXs8 : Hid (Boos w8 (.slice A1 n1 c1) L9) := HXs7.out.below hv7
  have HSt8 : Hid (SpBox w8 v6.heap.size 8 (.slice A6 n6 c6)) := HSt7.out.below hv7
  have HXt8 : Hid (Boos w8 (.slice A6 n6 c6) L0) := HXt7.out.below hv7
  clear hx7 hb7 hv7 hw8
  have ps8 : (v7.alloc (.cells #[.int .i64 0, .slice A7 n7 c7] 24)).cell? ⟨v1.heap.size, 0, none⟩ = some (.int .i64 9) := by rw [HW8.out]; exact HSs8.out.c0
  have rs8 : (v7.alloc (.cells #[.int .i64 0, .slice A7 n7 c7] 24)).cell? ⟨v1.heap.size, 1, none⟩ = some (.slice A1 n1 c1) := by rw [HW8.out]; exact HSs8.out.c1
  have pt8 : (v7.alloc (.cells #[.int .i64 0, .slice A7 n7 c7] 24)).cell? ⟨v6.heap.size, 0, none⟩ = some (.int .i64 8) := by rw [HW8.out]; exact HSt8.out.c0
  have rt8 : (v7.alloc (.cells #[.int .i64 0, .slice A7 n7 c7] 24)).cell? ⟨v6.heap.size, 1, none⟩ = some (.slice A6 n6 c6) := by rw [HW8.out]; exact HSt8.out.c1
  go_wp2_with fail
  rw [HW8.out]
  clear ps8 rs8
  clear pt8 rt8
  refine (lives8_any w8).mono ?_
  rintro e w9 ⟨rfl, hb9⟩
  have HB9 : Hid (Below w.heap.size w w9) := HB8.out.trans (hb9.mono HB8.out.size)
  have HSs9 : Hid (SpBox w9 v1.heap.size 9 (.slice A1 n1 c1)) := HSs8.out.below hb9
  have HXs9 : Hid (Boos w9 (.slice A1 n1 c1) L9) := HXs8.out.below hb9
  have ps9 := HSs9.out.c0
  have rs9 := HSs9.out.c1
  have HSt9 : Hid (SpBox w9 v6.heap.size 8 (.slice A6 n6 c6)) := HSt8.out.below hb9
  have HXt9 : Hid (Boos w9 (.slice A6 n6 c6) L0) := HXt8.out.below hb9
  have pt9 := HSt9.out.c0
  have rt9 := HSt9.out.c1
  clear hb9
  go_wp2_with fail
  clear ps9 rs9
  clear pt9 rt9
  refine (q8 ▸ spCount_any w9 9 _ L9 HXs9.out (by decide)).mono ?_
  rintro e w10 ⟨rfl, hb10⟩
  have HB10 : Hid (Below w.heap.size w w10) := HB9.out.trans (hb10.mono HB9.out.size)
  have HSs10 : Hid (SpBox w10 v1.heap.size 9 (.slice A1 n1 c1)) := HSs9.out.below hb10
  have HXs10 : Hid (Boos w10 (.slice A1 n1 c1) L9) := HXs9.out.below hb10
  have ps10 := HSs10.out.c0
  have rs10 := HSs10.out.c1
  have HSt10 : Hid (SpBox w10 v6.heap.size 8 (.slice A6 n6 c6)) := HSt9.out.below hb10
  have HXt10 : Hid (Boos w10 (.slice A6 n6 c6) L0) := HXt9.out.below hb10
  have pt10 := HSt10.out.c0
  have rt10 := HSt10.out.c1
  clear hb10
  go_wp2_with fail
  clear ps10 rs10
  clear pt10 rt10
  refine (q11 ▸ spsame_any w10 9 9 _ _ L9 L9 HXs10.out HXs10.out).mono ?_
  rintro e w11 ⟨rfl, hb11⟩
  have HB11 : Hid (Below w.heap.size w w11) := HB10.out.trans (hb11.mono HB10.out.size)
  have HSs11 : Hid (SpBox w11 v1.heap.size 9 (.slice A1 n1 c1)) := HSs10.out.below hb11
  have HXs11 : Hid (Boos w11 (.slice A1 n1 c1) L9) := HXs10.out.below hb11
  have ps11 := HSs11.out.c0
  have rs11 := HSs11.out.c1
  have HSt11 : Hid (SpBox w11 v6.heap.size 8 (.slice A6 n6 c6)) := HSt10.out.below hb11
  have HXt11 : Hid (Boos w11 (.slice A6 n6 c6) L0) := HXt10.out.below hb11
  have pt11 := HSt11.out.c0
  have rt11 := HSt11.out.c1
  clear hb11
  go_wp2_with fail
  clear ps11 rs11
  clear pt11 rt11
  refine (q12 ▸ spsame_any w11 9 8 _ _ L9 L0 HXs11.out HXt11.out).mono ?_
  rintro e w12 ⟨rfl, hb12⟩
  have HB12 : Hid (Below w.heap.size w w12) := HB11.out.trans (hb12.mono HB11.out.size)
  have HSs12 : Hid (SpBox w12 v1.heap.size 9 (.slice A1 n1 c1)) := HSs11.out.below hb12
  have HXs12 : Hid (Boos w12 (.slice A1 n1 c1) L9) := HXs11.out.below hb12
  have ps12 := HSs12.out.c0
  have rs12 := HSs12.out.c1
  have HSt12 : Hid (SpBox w12 v6.heap.size 8 (.slice A6 n6 c6)) := HSt11.out.below hb12
  have HXt12 : Hid (Boos w12 (.slice A6 n6 c6) L0) := HXt11.out.below hb12
  have pt12 := HSt12.out.c0
  have rt12 := HSt12.out.c1
  clear hb12
  go_wp2_with fail
  clear ps12 rs12
  clear pt12 rt12
  refine ((if_neg q10 : (if spOk 0 [] then (0 : Int) else 2) = 2) ▸ spcheck_any w12 0 (.slice none 0 0) [] (Boos.nil _) (by decide)).mono ?_
  rintro e w13 ⟨rfl, hb13⟩
  have HB13 : Hid (Below w.heap.size w w13) := HB12.out.trans (hb13.mono HB12.out.size)
  have HSs13 : Hid (SpBox w13 v1.heap.size 9 (.slice A1 n1 c1)) := HSs12.out.below hb13
  have HXs13 : Hid (Boos w13 (.slice A1 n1 c1) L9) := HXs12.out.below hb13
  have ps13 := HSs13.out.c0
  have rs13 := HSs13.out.c1
  have HSt13 : Hid (SpBox w13 v6.heap.size 8 (.slice A6 n6 c6)) := HSt12.out.below hb13
  have HXt13 : Hid (Boos w13 (.slice A6 n6 c6) L0) := HXt12.out.below hb13
  have pt13 := HSt13.out.c0
  have rt13 := HSt13.out.c1
  clear hb13
  go_wp2_with fail
  clear ps13 rs13
  clear pt13 rt13
  refine (q9 ▸ spFree_any w13 0 (.slice none 0 0) [] (Boos.nil _) (by decide)).mono ?_
  rintro e w14 ⟨x14, rfl, hx14, hb14⟩
  obtain ⟨A14, n14, c14, rfl, N14, _, _⟩ := hx14.rowz.form
  obtain rfl : n14 = 0 := N14.out
  have HB14 : Hid (Below w.heap.size w w14) := HB13.out.trans (hb14.mono HB13.out.size)
  clear hx14 hb14 N14
  go_wp2_with fail
  go_ret
  exact ⟨rfl, HB14.out⟩

set_option maxRecDepth 100000 in
theorem lifted (os : Os) (started : os.Started) (H : Type) (enc : TypeId × Value → H) :
    ReturnsInHanded {} Try.checked os 3 .any (Rows.spaceNamesSpec.pre6 enc Try.prog Try.f3 Rows.spaceNamesRow.domain false) (Rows.spaceNamesSpec.post enc Try.prog Try.f3 false true false false) := by
  refine returnsInHanded_of_change (C := Try.checked) ownKnobs started (by kernel_rfl) Try.func3
    (ChangeSpec.witness6 (enc := enc) (C := Try.checked) false ⟨#[], #[], []⟩ 8 (by kernel_rfl) (by kernel_rfl) (by kernel_rfl) (by kernel_rfl)) ?_
  intro W base args ds gs before hval0 hW hcnd _
  have hval : ∀ (j : Nat) t v, Try.f3.params[j]? = some t → args[j]? = some v → Value.okWide Try.prog W .any base t v := hval0
  have hW' := hW
  obtain ⟨p, q, hA0, hV, rfl, hfz, hnd⟩ := hW
  have hA : DataW.TrodAll enc Try.prog W 0 (fun _ => true) true Try.f3.params.toList args.toList ds p := hA0
  rw [Try.params3] at hA hval
  obtain ⟨rfl, rfl, rfl⟩ := trodAll_none hA
  obtain ⟨rfl, rfl⟩ := trodVars_none hV
  clear hA0 hval0
  refine (walk W ).mono fun e W' ⟨he, bel⟩ => ?_
  subst he
  exact ⟨_, rfl, _, _, _, [], _, [], hW', trodAll_mk1 (shut_bool Try.underlying4 _), trodAll_mk0, rfl, bel.frame _, fun h => by cases h⟩

theorem over : Rows.spaceNamesRow.holds Try.pinned (OpenSpec.ofChange Rows.spaceNamesSpec) :=
  OpenClaim.holds_of_wide 3 Try.f3 rfl rfl rfl rfl rfl rfl rfl ⟨rfl, rfl, rfl, rfl, rfl⟩ rfl rfl rfl rfl rfl (by kernel_rfl) Try.func3 (by kernel_rfl)
    (of_decide_eq_true (by kernel_rfl)) (by unfold Func.isWrapper; first | (rw [if_pos (by decide +kernel)]; kernel_rfl) | (rw [if_neg (by decide +kernel)]; exact ⟨rfl, rfl⟩))
    (fun os started H enc _ => lifted os started H enc)

theorem proved : Rows.SpaceNamesSaid := over
#print axioms proved
end Go.Proofs.Ytncjobeahpjnpaa.spaceNames

