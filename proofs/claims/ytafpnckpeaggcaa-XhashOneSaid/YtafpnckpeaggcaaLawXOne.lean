/-
  The statement XhashOne: the end loses nothing; a round is one to one in each of both; bits low and high are the word. Conditions: none.
-/
import Derived.Test.YtafpnckpeaggcaaLives2
import Derived.Test.YtafpnckpeaggcaaHone
import Derived.Test.YtafpnckpeaggcaaOpen
namespace Go.Proofs.Ytafpnckpeaggcaa.xhashOne
open Go.ChangeShapes Go.WideShapes Go.ChangeAt Go.RowKit
set_option linter.unusedVariables false

set_option maxRecDepth 100000 in
set_option maxHeartbeats 4000000 in
theorem walk_ne_zero (w : World) (a b x k : Nat) (n : Int) (ha : a < 18446744073709551616) (hb : b < 18446744073709551616) (hx : x < 18446744073709551616) (hne : a ≠ b) (hn : n % 65 = (k : Int)) (hk : k = 0) :
    Calls Try.prog 5 #[.int .u64 (a : Int), .int .u64 (b : Int), .int .u64 (x : Int), .int .i64 n] w fun e w' => e = .returned (.bool true) ∧ Below w.heap.size w w' := by
  have V1 := Lib.hid (fun w => aval_any a w ha)
  have V2 := Lib.hid (fun w => aval_any b w hb)
  have V3 := Lib.hid (fun w => round_any a x w)
  have V4 := Lib.hid (fun w => round_any b x w)
  have V5 := Lib.hid (fun w => round_any x a w)
  have V6 := Lib.hid (fun w => round_any x b w)
  have V7 := Lib.hid (fun w => merge_any x a w hx)
  have V8 := Lib.hid (fun w => merge_any x b w hx)
  have e0 := ne_int hne
  have e1 := ne_int (fun h => hne (avalW_inj ha hb h))
  have e2 := ne_int (fun h => hne (round_inj1 (w := x) ha hb h))
  have e3 := ne_int (fun h => hne (round_inj2 (w := x) ha hb h))
  have e4 := ne_int (fun h => hne (merge_inj ha hb hx h))
  generalize avalW a = y1 at *
  generalize roundW a x = y3 at *
  generalize roundW x a = y5 at *
  generalize mergeW x a = y7 at *
  generalize avalW b = y2 at *
  generalize roundW b x = y4 at *
  generalize roundW x b = y6 at *
  generalize mergeW x b = y8 at *
  have P0 := Lib.hid (fun w => pick_any n 65 w (by omega) (by omega))
  subst hk
  rw [hn] at P0
  have P1 : Hid (∀ w, Calls Try.prog 24 #[.int .i64 n, .int .i64 65] w fun e w' => e = .returned (.int .i64 0) ∧ w = w') := P0.out
  have L1 := Lib.hid (fun w => low_any a 64 w ha)
  have L2 := Lib.hid (fun w => high_any a 0 w)
  rw [show bitsW 64 = 64 from by decide +kernel, lowW_all a ha] at L1
  rw [show bitsW 0 = 0 from by decide +kernel, high_none a ha] at L2
  have HA := Lib.hid ha
  clear ha hb hx hne hn P0
  go_enter Try.func5, Try.ntmps5
  go_wp2_with fail
  refine (lives2_any _).mono ?_
  rintro e w1 ⟨rfl, hb1⟩
  go_wp2_with fail
  refine (V1.out _).mono ?_
  rintro e w2 ⟨rfl, rfl⟩
  go_wp2_with fail
  refine (V2.out _).mono ?_
  rintro e w2 ⟨rfl, rfl⟩
  go_wp2_with fail
  refine (V3.out _).mono ?_
  rintro e w2 ⟨rfl, rfl⟩
  go_wp2_with fail
  refine (V4.out _).mono ?_
  rintro e w2 ⟨rfl, rfl⟩
  go_wp2_with fail
  refine (V5.out _).mono ?_
  rintro e w2 ⟨rfl, rfl⟩
  go_wp2_with fail
  refine (V6.out _).mono ?_
  rintro e w2 ⟨rfl, rfl⟩
  go_wp2_with fail
  refine (V7.out _).mono ?_
  rintro e w2 ⟨rfl, rfl⟩
  go_wp2_with fail
  refine (V8.out _).mono ?_
  rintro e w2 ⟨rfl, rfl⟩
  go_wp2_with fail
  refine (P1.out _).mono ?_
  rintro e w2 ⟨rfl, rfl⟩
  go_wp2_with fail
  refine (L1.out _).mono ?_
  rintro e w2 ⟨rfl, rfl⟩
  go_wp2_with fail
  refine (L2.out _).mono ?_
  rintro e w2 ⟨rfl, rfl⟩
  go_wp2_with fail
  go_ret
  exact ⟨rfl, hb1⟩

set_option maxRecDepth 100000 in
set_option maxHeartbeats 4000000 in
theorem walk_ne_some (w : World) (a b x k : Nat) (n : Int) (ha : a < 18446744073709551616) (hb : b < 18446744073709551616) (hx : x < 18446744073709551616) (hne : a ≠ b) (hn : n % 65 = (k : Int)) (hk : k ≤ 64) (hk0 : 0 < k) :
    Calls Try.prog 5 #[.int .u64 (a : Int), .int .u64 (b : Int), .int .u64 (x : Int), .int .i64 n] w fun e w' => e = .returned (.bool true) ∧ Below w.heap.size w w' := by
  have V1 := Lib.hid (fun w => aval_any a w ha)
  have V2 := Lib.hid (fun w => aval_any b w hb)
  have V3 := Lib.hid (fun w => round_any a x w)
  have V4 := Lib.hid (fun w => round_any b x w)
  have V5 := Lib.hid (fun w => round_any x a w)
  have V6 := Lib.hid (fun w => round_any x b w)
  have V7 := Lib.hid (fun w => merge_any x a w hx)
  have V8 := Lib.hid (fun w => merge_any x b w hx)
  have e0 := ne_int hne
  have e1 := ne_int (fun h => hne (avalW_inj ha hb h))
  have e2 := ne_int (fun h => hne (round_inj1 (w := x) ha hb h))
  have e3 := ne_int (fun h => hne (round_inj2 (w := x) ha hb h))
  have e4 := ne_int (fun h => hne (merge_inj ha hb hx h))
  generalize avalW a = y1 at *
  generalize roundW a x = y3 at *
  generalize roundW x a = y5 at *
  generalize mergeW x a = y7 at *
  generalize avalW b = y2 at *
  generalize roundW b x = y4 at *
  generalize roundW x b = y6 at *
  generalize mergeW x b = y8 at *
  have P0 := Lib.hid (fun w => pick_any n 65 w (by omega) (by omega))
  rw [hn] at P0
  have P1 := Lib.hid P0.out
  have L1 := Lib.hid (fun w => low_any a ((64 - k : Nat) : Int) w ha)
  have L2 := Lib.hid (fun w => high_any a (k : Int) w)
  have L3 := Lib.hid (fun w => low_any a 0 w ha)
  have L4 := Lib.hid (fun w => high_any a 64 w)
  rw [bitsW_nat _ (by omega), show ((64 - k : Nat) : Int) = 64 - (k : Int) by omega] at L1
  rw [bitsW_nat _ hk] at L2
  rw [show bitsW 0 = 0 from by decide +kernel, low_none] at L3
  rw [show bitsW 64 = 64 from by decide +kernel, high_all] at L4
  have hbb := bits_both a k ha
  generalize lowW a (64 - k) = lo at *
  generalize highW a k = hi at *
  have hk64 : (k : Int) ≤ 64 := by omega
  have hkz : ((k : Int) == 0) = false := by rw [beq_eq_false_iff_ne]; omega
  have HA := Lib.hid ha
  clear ha hb hx hne hn hk P0
  go_enter Try.func5, Try.ntmps5
  go_wp2_with fail
  refine (lives2_any _).mono ?_
  rintro e w1 ⟨rfl, hb1⟩
  go_wp2_with fail
  refine (V1.out _).mono ?_
  rintro e w2 ⟨rfl, rfl⟩
  go_wp2_with fail
  refine (V2.out _).mono ?_
  rintro e w2 ⟨rfl, rfl⟩
  go_wp2_with fail
  refine (V3.out _).mono ?_
  rintro e w2 ⟨rfl, rfl⟩
  go_wp2_with fail
  refine (V4.out _).mono ?_
  rintro e w2 ⟨rfl, rfl⟩
  go_wp2_with fail
  refine (V5.out _).mono ?_
  rintro e w2 ⟨rfl, rfl⟩
  go_wp2_with fail
  refine (V6.out _).mono ?_
  rintro e w2 ⟨rfl, rfl⟩
  go_wp2_with fail
  refine (V7.out _).mono ?_
  rintro e w2 ⟨rfl, rfl⟩
  go_wp2_with fail
  refine (V8.out _).mono ?_
  rintro e w2 ⟨rfl, rfl⟩
  go_wp2_with fail
  refine (P1.out _).mono ?_
  rintro e w2 ⟨rfl, rfl⟩
  go_wp2_with fail
  refine (L1.out _).mono ?_
  rintro e w2 ⟨rfl, rfl⟩
  go_wp2_with fail
  refine (L2.out _).mono ?_
  rintro e w2 ⟨rfl, rfl⟩
  go_wp2_with fail
  refine (L3.out _).mono ?_
  rintro e w2 ⟨rfl, rfl⟩
  go_wp2_with fail
  refine (L4.out _).mono ?_
  rintro e w2 ⟨rfl, rfl⟩
  go_wp2_with fail
  go_ret
  exact ⟨rfl, hb1⟩

set_option maxRecDepth 100000 in
set_option maxHeartbeats 4000000 in
theorem walk_eq_zero (w : World) (a x k : Nat) (n : Int) (ha : a < 18446744073709551616) (hx : x < 18446744073709551616) (hn : n % 65 = (k : Int)) (hk : k = 0) :
    Calls Try.prog 5 #[.int .u64 (a : Int), .int .u64 (a : Int), .int .u64 (x : Int), .int .i64 n] w fun e w' => e = .returned (.bool true) ∧ Below w.heap.size w w' := by
  have V1 := Lib.hid (fun w => aval_any a w ha)
  have V2 := Lib.hid (fun w => aval_any a w ha)
  have V3 := Lib.hid (fun w => round_any a x w)
  have V4 := Lib.hid (fun w => round_any a x w)
  have V5 := Lib.hid (fun w => round_any x a w)
  have V6 := Lib.hid (fun w => round_any x a w)
  have V7 := Lib.hid (fun w => merge_any x a w hx)
  have V8 := Lib.hid (fun w => merge_any x a w hx)
  generalize avalW a = y1 at *
  generalize roundW a x = y3 at *
  generalize roundW x a = y5 at *
  generalize mergeW x a = y7 at *
  have P0 := Lib.hid (fun w => pick_any n 65 w (by omega) (by omega))
  subst hk
  rw [hn] at P0
  have P1 : Hid (∀ w, Calls Try.prog 24 #[.int .i64 n, .int .i64 65] w fun e w' => e = .returned (.int .i64 0) ∧ w = w') := P0.out
  have L1 := Lib.hid (fun w => low_any a 64 w ha)
  have L2 := Lib.hid (fun w => high_any a 0 w)
  rw [show bitsW 64 = 64 from by decide +kernel, lowW_all a ha] at L1
  rw [show bitsW 0 = 0 from by decide +kernel, high_none a ha] at L2
  have HA := Lib.hid ha
  clear ha hx hn P0
  go_enter Try.func5, Try.ntmps5
  go_wp2_with fail
  refine (lives2_any _).mono ?_
  rintro e w1 ⟨rfl, hb1⟩
  go_wp2_with fail
  refine (V1.out _).mono ?_
  rintro e w2 ⟨rfl, rfl⟩
  go_wp2_with fail
  refine (V2.out _).mono ?_
  rintro e w2 ⟨rfl, rfl⟩
  go_wp2_with fail
  refine (V3.out _).mono ?_
  rintro e w2 ⟨rfl, rfl⟩
  go_wp2_with fail
  refine (V4.out _).mono ?_
  rintro e w2 ⟨rfl, rfl⟩
  go_wp2_with fail
  refine (V5.out _).mono ?_
  rintro e w2 ⟨rfl, rfl⟩
  go_wp2_with fail
  refine (V6.out _).mono ?_
  rintro e w2 ⟨rfl, rfl⟩
  go_wp2_with fail
  refine (V7.out _).mono ?_
  rintro e w2 ⟨rfl, rfl⟩
  go_wp2_with fail
  refine (V8.out _).mono ?_
  rintro e w2 ⟨rfl, rfl⟩
  go_wp2_with fail
  refine (P1.out _).mono ?_
  rintro e w2 ⟨rfl, rfl⟩
  go_wp2_with fail
  refine (L1.out _).mono ?_
  rintro e w2 ⟨rfl, rfl⟩
  go_wp2_with fail
  refine (L2.out _).mono ?_
  rintro e w2 ⟨rfl, rfl⟩
  go_wp2_with fail
  go_ret
  exact ⟨rfl, hb1⟩

set_option maxRecDepth 100000 in
set_option maxHeartbeats 4000000 in
theorem walk_eq_some (w : World) (a x k : Nat) (n : Int) (ha : a < 18446744073709551616) (hx : x < 18446744073709551616) (hn : n % 65 = (k : Int)) (hk : k ≤ 64) (hk0 : 0 < k) :
    Calls Try.prog 5 #[.int .u64 (a : Int), .int .u64 (a : Int), .int .u64 (x : Int), .int .i64 n] w fun e w' => e = .returned (.bool true) ∧ Below w.heap.size w w' := by
  have V1 := Lib.hid (fun w => aval_any a w ha)
  have V2 := Lib.hid (fun w => aval_any a w ha)
  have V3 := Lib.hid (fun w => round_any a x w)
  have V4 := Lib.hid (fun w => round_any a x w)
  have V5 := Lib.hid (fun w => round_any x a w)
  have V6 := Lib.hid (fun w => round_any x a w)
  have V7 := Lib.hid (fun w => merge_any x a w hx)
  have V8 := Lib.hid (fun w => merge_any x a w hx)
  generalize avalW a = y1 at *
  generalize roundW a x = y3 at *
  generalize roundW x a = y5 at *
  generalize mergeW x a = y7 at *
  have P0 := Lib.hid (fun w => pick_any n 65 w (by omega) (by omega))
  rw [hn] at P0
  have P1 := Lib.hid P0.out
  have L1 := Lib.hid (fun w => low_any a ((64 - k : Nat) : Int) w ha)
  have L2 := Lib.hid (fun w => high_any a (k : Int) w)
  have L3 := Lib.hid (fun w => low_any a 0 w ha)
  have L4 := Lib.hid (fun w => high_any a 64 w)
  rw [bitsW_nat _ (by omega), show ((64 - k : Nat) : Int) = 64 - (k : Int) by omega] at L1
  rw [bitsW_nat _ hk] at L2
  rw [show bitsW 0 = 0 from by decide +kernel, low_none] at L3
  rw [show bitsW 64 = 64 from by decide +kernel, high_all] at L4
  have hbb := bits_both a k ha
  generalize lowW a (64 - k) = lo at *
  generalize highW a k = hi at *
  have hk64 : (k : Int) ≤ 64 := by omega
  have hkz : ((k : Int) == 0) = false := by rw [beq_eq_false_iff_ne]; omega
  have HA := Lib.hid ha
  clear ha hx hn hk P0
  go_enter Try.func5, Try.ntmps5
  go_wp2_with fail
  refine (lives2_any _).mono ?_
  rintro e w1 ⟨rfl, hb1⟩
  go_wp2_with fail
  refine (V1.out _).mono ?_
  rintro e w2 ⟨rfl, rfl⟩
  go_wp2_with fail
  refine (V2.out _).mono ?_
  rintro e w2 ⟨rfl, rfl⟩
  go_wp2_with fail
  refine (V3.out _).mono ?_
  rintro e w2 ⟨rfl, rfl⟩
  go_wp2_with fail
  refine (V4.out _).mono ?_
  rintro e w2 ⟨rfl, rfl⟩
  go_wp2_with fail
  refine (V5.out _).mono ?_
  rintro e w2 ⟨rfl, rfl⟩
  go_wp2_with fail
  refine (V6.out _).mono ?_
  rintro e w2 ⟨rfl, rfl⟩
  go_wp2_with fail
  refine (V7.out _).mono ?_
  rintro e w2 ⟨rfl, rfl⟩
  go_wp2_with fail
  refine (V8.out _).mono ?_
  rintro e w2 ⟨rfl, rfl⟩
  go_wp2_with fail
  refine (P1.out _).mono ?_
  rintro e w2 ⟨rfl, rfl⟩
  go_wp2_with fail
  refine (L1.out _).mono ?_
  rintro e w2 ⟨rfl, rfl⟩
  go_wp2_with fail
  refine (L2.out _).mono ?_
  rintro e w2 ⟨rfl, rfl⟩
  go_wp2_with fail
  refine (L3.out _).mono ?_
  rintro e w2 ⟨rfl, rfl⟩
  go_wp2_with fail
  refine (L4.out _).mono ?_
  rintro e w2 ⟨rfl, rfl⟩
  go_wp2_with fail
  go_ret
  exact ⟨rfl, hb1⟩

theorem walk (w : World) (a b x : Nat) (n : Int) (ha : a < 18446744073709551616) (hb : b < 18446744073709551616) (hx : x < 18446744073709551616) (_ : -9223372036854775808 ≤ n ∧ n ≤ 9223372036854775807) :
    Calls Try.prog 5 #[.int .u64 (a : Int), .int .u64 (b : Int), .int .u64 (x : Int), .int .i64 n] w fun e w' => e = .returned (.bool true) ∧ Below w.heap.size w w' := by
  have h1 := Int.emod_lt_of_pos n (show (0 : Int) < 65 by omega)
  obtain ⟨k, hk⟩ := Int.eq_ofNat_of_zero_le (Int.emod_nonneg n (show (65 : Int) ≠ 0 by omega))
  rw [hk] at h1
  by_cases hab : a = b
  · subst hab
    by_cases h0 : k = 0
    · exact walk_eq_zero w a x k n ha hx hk h0
    · exact walk_eq_some w a x k n ha hx hk (by omega) (by omega)
  · by_cases h0 : k = 0
    · exact walk_ne_zero w a b x k n ha hb hx hab hk h0
    · exact walk_ne_some w a b x k n ha hb hx hab hk (by omega) (by omega)

set_option maxRecDepth 100000 in
theorem lifted (os : Os) (started : os.Started) (H : Type) (enc : TypeId × Value → H) :
    ReturnsInHanded {} Try.checked os 5 .any (Rows.xhashOneSpec.pre6 enc Try.prog Try.f5 Rows.xhashOneRow.domain false) (Rows.xhashOneSpec.post enc Try.prog Try.f5 false true false false) := by
  refine returnsInHanded_of_change (C := Try.checked) ownKnobs started (by kernel_rfl) Try.func5
    (ChangeSpec.witness6 (enc := enc) (C := Try.checked) false ⟨#[], #[.int .u64 0, .int .u64 0, .int .u64 0, .int .i64 0], []⟩ 8 (by kernel_rfl) (by kernel_rfl) (by kernel_rfl) (by kernel_rfl)) ?_
  intro W base args ds gs before hval0 hW hcnd _
  have hval : ∀ (j : Nat) t v, Try.f5.params[j]? = some t → args[j]? = some v → Value.okWide Try.prog W .any base t v := hval0
  have hW' := hW
  obtain ⟨p, q, hA0, hV, rfl, hfz, hnd⟩ := hW
  have hA : DataW.TrodAll enc Try.prog W 0 (fun _ => true) true Try.f5.params.toList args.toList ds p := hA0
  rw [Try.params5] at hA hval
  obtain ⟨v0, vs0, d0, ds0, p0, q0, hargs, rfl, rfl, h0, r0⟩ := trodAll_cons hA
  obtain ⟨v1, vs1, d1, ds1, p1, q1, rfl, rfl, rfl, h1, r1⟩ := trodAll_cons r0
  obtain ⟨v2, vs2, d2, ds2, p2, q2, rfl, rfl, rfl, h2, r2⟩ := trodAll_cons r1
  obtain ⟨v3, vs3, d3, ds3, p3, q3, rfl, rfl, rfl, h3, r3⟩ := trodAll_cons r2
  obtain ⟨rfl, rfl, rfl⟩ := trodAll_nil r3
  obtain rfl : args = #[v0, v1, v2, v3] := by cases args; simp_all
  obtain ⟨rfl, rfl⟩ := trodVars_none hV
  obtain ⟨a0, rfl, rfl, rfl, w0⟩ := open_int Try.underlying23 (hval 0 23 v0 rfl rfl) h0
  obtain ⟨n0, rfl, b0⟩ := open_u64 w0
  obtain ⟨a1, rfl, rfl, rfl, w1⟩ := open_int Try.underlying23 (hval 1 23 v1 rfl rfl) h1
  obtain ⟨n1, rfl, b1⟩ := open_u64 w1
  obtain ⟨a2, rfl, rfl, rfl, w2⟩ := open_int Try.underlying23 (hval 2 23 v2 rfl rfl) h2
  obtain ⟨n2, rfl, b2⟩ := open_u64 w2
  obtain ⟨a3, rfl, rfl, rfl, w3⟩ := open_int Try.underlying3 (hval 3 3 v3 rfl rfl) h3
  have b3 := open_i64 w3
  clear hA0 hval0
  refine (walk W n0 n1 n2 a3 b0 b1 b2 b3).mono fun e W' ⟨he, bel⟩ => ?_
  subst he
  exact ⟨_, rfl, _, _, _, [], _, [], hW', trodAll_mk1 (shut_bool Try.underlying4 _), (trodAll_cons_mk (shut_int Try.underlying23 w0) (trodAll_cons_mk (shut_int Try.underlying23 w1) (trodAll_cons_mk (shut_int Try.underlying23 w2) (trodAll_cons_mk (shut_int Try.underlying3 w3) trodAll_mk0)))), rfl, bel.frame _, fun h => by cases h⟩

theorem over : Rows.xhashOneRow.holds Try.pinned (OpenSpec.ofChange Rows.xhashOneSpec) :=
  OpenClaim.holds_of_wide 5 Try.f5 rfl rfl rfl rfl rfl rfl rfl ⟨rfl, rfl, rfl, rfl, rfl⟩ rfl rfl rfl rfl rfl (by kernel_rfl) Try.func5 (by kernel_rfl)
    (of_decide_eq_true (by kernel_rfl)) (by unfold Func.isWrapper; first | (rw [if_pos (by decide +kernel)]; kernel_rfl) | (rw [if_neg (by decide +kernel)]; exact ⟨rfl, rfl⟩))
    (fun os started H enc _ => lifted os started H enc)

theorem proved : Rows.XhashOneSaid := over
#print axioms proved
end Go.Proofs.Ytafpnckpeaggcaa.xhashOne
