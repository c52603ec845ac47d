/-
  The statement XhashSums: the hash of bytes, and its parts, are what the document says. Conditions: none.
-/
import Derived.Test.YtafpnckpeaggcaaLives2
import Derived.Test.YtafpnckpeaggcaaRef2
import Derived.Test.YtafpnckpeaggcaaOpen
namespace Go.Proofs.Ytafpnckpeaggcaa.xhashSums
open Go.ChangeShapes Go.WideShapes Go.ChangeAt Go.RowKit
set_option linter.unusedVariables false

set_option maxHeartbeats 4000000 in
theorem walk_long (w : World) (s : Nat) (v : Value) (l : List UInt8) (a x : Nat) (n : Int) (hv : Byt w v l) (hl : 3000 < l.length) :
    Calls Try.prog 4 #[.int .u64 (s : Int), v, .int .u64 (a : Int), .int .u64 (x : Int), .int .i64 n] w fun e w' => e = .returned (.bool true) ∧ Below w.heap.size w w' := by
  obtain ⟨A, m, c, rfl, N, hnc, hcm⟩ := hv.form
  have hm : (3000 : Int) < (m : Int) := by have := N.out; omega
  clear hv hl
  go_enter Try.func4, Try.ntmps4
  go_wp2_with fail
  refine (lives2_any _).mono ?_
  rintro e w1 ⟨rfl, hb1⟩
  go_wp2_with fail
  go_ret
  exact ⟨rfl, hb1⟩

set_option maxRecDepth 100000 in
set_option maxHeartbeats 8000000 in
theorem walk_short (w : World) (s : Nat) (v : Value) (l : List UInt8) (a x : Nat) (n : Int) (hs : s < 18446744073709551616) (hv : Byt w v l) (ha : a < 18446744073709551616) (hx : x < 18446744073709551616) (hl : l.length ≤ 3000) :
    Calls Try.prog 4 #[.int .u64 (s : Int), v, .int .u64 (a : Int), .int .u64 (x : Int), .int .i64 n] w fun e w' => e = .returned (.bool true) ∧ Below w.heap.size w w' := by
  obtain ⟨A, m, c, rfl, N, hnc, hcm⟩ := hv.form
  have hm : ¬ (3000 : Int) < (m : Int) := by have := N.out; omega
  have HV := Lib.hid hv
  have S1 := Lib.hid (fun w v hv => sum_any w s v l hv hs (by omega))
  have S2 := Lib.hid (fun w v hv => refsum_any w s v l hv hs (by omega))
  have S3 := Lib.hid (fun w => text_any w s l hs (by omega))
  have V1 := Lib.hid (fun w => round_any a x w)
  have V2 := Lib.hid (fun w => refround_any a x w)
  have V3 := Lib.hid (fun w => merge_any a x w ha)
  have V4 := Lib.hid (fun w => refmerge_any a x w ha)
  have V5 := Lib.hid (fun w => aval_any a w ha)
  have V6 := Lib.hid (fun w => refaval_any a w ha)
  have V7 := Lib.hid (fun w => low_any a n w ha)
  have V8 := Lib.hid (fun w => reflow_any a n w ha)
  have V9 := Lib.hid (fun w => high_any a n w)
  have V10 := Lib.hid (fun w => refhigh_any a n w)
  generalize sumW s l = y0 at *
  generalize roundW a x = y1 at *
  generalize mergeW a x = y2 at *
  generalize avalW a = y3 at *
  generalize lowW a (bitsW n) = y4 at *
  generalize highW a (bitsW n) = y5 at *
  have HL := Lib.hid hl
  clear hv hs ha hx hl
  go_enter Try.func4, Try.ntmps4
  go_wp2_with fail
  refine (lives2_any _).mono ?_
  rintro e w1 ⟨rfl, hb1⟩
  have HV1 := Lib.hid (HV.out.below hb1)
  go_wp2_with fail
  refine (kitown_any _ _ l HV1.out (by have := HL.out; omega)).mono ?_
  rintro e w2 ⟨v2, rfl, ho2, hb2⟩
  have HO2 := Lib.hid ho2.byt
  have HV2 := Lib.hid (HV1.out.below hb2)
  have hw2 := hb1.trans (hb2.mono hb1.size)
  clear hb1 hb2 ho2
  go_wp2_with fail
  refine (S1.out _ _ HO2.out).mono ?_
  rintro e w3 ⟨rfl, hb3⟩
  have HV3 := Lib.hid (HV2.out.below hb3)
  have hw3 := hw2.trans (hb3.mono hw2.size)
  clear hw2 hb3
  go_wp2_with fail
  refine (S2.out _ _ HV3.out).mono ?_
  rintro e w4 ⟨rfl, hb4⟩
  have HV4 := Lib.hid (HV3.out.below hb4)
  have hw4 := hw3.trans (hb4.mono hw3.size)
  clear hw3 hb4
  have htx := text_of HV4.out
  go_wp2_with fail
  refine (S3.out _).mono ?_
  rintro e w5 ⟨rfl, hb5⟩
  have HV5 := Lib.hid (HV4.out.below hb5)
  have hw5 := hw4.trans (hb5.mono hw4.size)
  clear hw4 hb5 htx
  go_wp2_with fail
  refine (S2.out _ _ HV5.out).mono ?_
  rintro e w6 ⟨rfl, hb6⟩
  have hw6 := hw5.trans (hb6.mono hw5.size)
  clear hw5 hb6
  go_wp2_with fail
  refine (V1.out _).mono ?_
  rintro e w7 ⟨rfl, rfl⟩
  go_wp2_with fail
  refine (V2.out _).mono ?_
  rintro e w7 ⟨rfl, rfl⟩
  go_wp2_with fail
  refine (V3.out _).mono ?_
  rintro e w7 ⟨rfl, rfl⟩
  go_wp2_with fail
  refine (V4.out _).mono ?_
  rintro e w7 ⟨rfl, rfl⟩
  go_wp2_with fail
  refine (V5.out _).mono ?_
  rintro e w7 ⟨rfl, rfl⟩
  go_wp2_with fail
  refine (V6.out _).mono ?_
  rintro e w7 ⟨rfl, rfl⟩
  go_wp2_with fail
  refine (V7.out _).mono ?_
  rintro e w7 ⟨rfl, rfl⟩
  go_wp2_with fail
  refine (V8.out _).mono ?_
  rintro e w7 ⟨rfl, rfl⟩
  go_wp2_with fail
  refine (V9.out _).mono ?_
  rintro e w7 ⟨rfl, rfl⟩
  go_wp2_with fail
  refine (V10.out _).mono ?_
  rintro e w7 ⟨rfl, rfl⟩
  go_wp2_with fail
  go_ret
  exact ⟨rfl, hw6⟩

theorem walk (w : World) (s : Nat) (v : Value) (l : List UInt8) (a x : Nat) (n : Int) (hs : s < 18446744073709551616) (hv : Byt w v l) (ha : a < 18446744073709551616) (hx : x < 18446744073709551616) (_ : -9223372036854775808 ≤ n ∧ n ≤ 9223372036854775807) :
    Calls Try.prog 4 #[.int .u64 (s : Int), v, .int .u64 (a : Int), .int .u64 (x : Int), .int .i64 n] w fun e w' => e = .returned (.bool true) ∧ Below w.heap.size w w' := by
  by_cases hl : 3000 < l.length
  · exact walk_long w s v l a x n hv hl
  · exact walk_short w s v l a x n hs hv ha hx (by omega)

set_option maxRecDepth 100000 in
theorem lifted (os : Os) (started : os.Started) (H : Type) (enc : TypeId × Value → H) :
    ReturnsInHanded {} Try.checked os 4 .any (Rows.xhashSumsSpec.pre6 enc Try.prog Try.f4 Rows.xhashSumsRow.domain false) (Rows.xhashSumsSpec.post enc Try.prog Try.f4 false true false false) := by
  refine returnsInHanded_of_change (C := Try.checked) ownKnobs started (by kernel_rfl) Try.func4
    (ChangeSpec.witness6 (enc := enc) (C := Try.checked) false ⟨#[], #[.int .u64 0, .slice none 0 0, .int .u64 0, .int .u64 0, .int .i64 0], []⟩ 8 (by kernel_rfl) (by kernel_rfl) (by kernel_rfl) (by kernel_rfl)) ?_
  intro W base args ds gs before hval0 hW hcnd _
  have hval : ∀ (j : Nat) t v, Try.f4.params[j]? = some t → args[j]? = some v → Value.okWide Try.prog W .any base t v := hval0
  have hW' := hW
  obtain ⟨p, q, hA0, hV, rfl, hfz, hnd⟩ := hW
  have hA : DataW.TrodAll enc Try.prog W 0 (fun _ => true) true Try.f4.params.toList args.toList ds p := hA0
  rw [Try.params4] at hA hval
  obtain ⟨v0, vs0, d0, ds0, p0, q0, hargs, rfl, rfl, h0, r0⟩ := trodAll_cons hA
  obtain ⟨v1, vs1, d1, ds1, p1, q1, rfl, rfl, rfl, h1, r1⟩ := trodAll_cons r0
  obtain ⟨v2, vs2, d2, ds2, p2, q2, rfl, rfl, rfl, h2, r2⟩ := trodAll_cons r1
  obtain ⟨v3, vs3, d3, ds3, p3, q3, rfl, rfl, rfl, h3, r3⟩ := trodAll_cons r2
  obtain ⟨v4, vs4, d4, ds4, p4, q4, rfl, rfl, rfl, h4, r4⟩ := trodAll_cons r3
  obtain ⟨rfl, rfl, rfl⟩ := trodAll_nil r4
  obtain rfl : args = #[v0, v1, v2, v3, v4] := by cases args; simp_all
  obtain ⟨rfl, rfl⟩ := trodVars_none hV
  obtain ⟨a0, rfl, rfl, rfl, w0⟩ := open_int Try.underlying23 (hval 0 23 v0 rfl rfl) h0
  obtain ⟨n0, rfl, b0⟩ := open_u64 w0
  have k1 := h1
  have lt1 : ∀ x ∈ p1, x.block < W.heap.size := by obtain ⟨m, hm⟩ := k1; exact DataW.trod_lt m _ _ _ hm
  obtain ⟨l1, b1⟩ := open_bytes (hval 1 27 v1 rfl rfl) h1
  obtain ⟨a2, rfl, rfl, rfl, w2⟩ := open_int Try.underlying23 (hval 2 23 v2 rfl rfl) h2
  obtain ⟨n2, rfl, b2⟩ := open_u64 w2
  obtain ⟨a3, rfl, rfl, rfl, w3⟩ := open_int Try.underlying23 (hval 3 23 v3 rfl rfl) h3
  obtain ⟨n3, rfl, b3⟩ := open_u64 w3
  obtain ⟨a4, rfl, rfl, rfl, w4⟩ := open_int Try.underlying3 (hval 4 3 v4 rfl rfl) h4
  have b4 := open_i64 w4
  clear hA0 hval0
  refine (walk W n0 v1 l1 n2 n3 a4 b0 b1 b2 b3 b4).mono fun e W' ⟨he, bel⟩ => ?_
  subst he
  exact ⟨_, rfl, _, _, _, [], _, [], hW', trodAll_mk1 (shut_bool Try.underlying4 _), (trodAll_cons_mk (shut_int Try.underlying23 w0) (trodAll_cons_mk (Below.trod laidOuts (by kernel_rfl) (of_decide_eq_true (by kernel_rfl)) k1 bel lt1) (trodAll_cons_mk (shut_int Try.underlying23 w2) (trodAll_cons_mk (shut_int Try.underlying23 w3) (trodAll_cons_mk (shut_int Try.underlying3 w4) trodAll_mk0))))), rfl, bel.frame _, fun h => by cases h⟩

theorem over : Rows.xhashSumsRow.holds Try.pinned (OpenSpec.ofChange Rows.xhashSumsSpec) :=
  OpenClaim.holds_of_wide 4 Try.f4 rfl rfl rfl rfl rfl rfl rfl ⟨rfl, rfl, rfl, rfl, rfl⟩ rfl rfl rfl rfl rfl (by kernel_rfl) Try.func4 (by kernel_rfl)
    (of_decide_eq_true (by kernel_rfl)) (by unfold Func.isWrapper; first | (rw [if_pos (by decide +kernel)]; kernel_rfl) | (rw [if_neg (by decide +kernel)]; exact ⟨rfl, rfl⟩))
    (fun os started H enc _ => lifted os started H enc)

theorem proved : Rows.XhashSumsSaid := over
#print axioms proved
end Go.Proofs.Ytafpnckpeaggcaa.xhashSums
