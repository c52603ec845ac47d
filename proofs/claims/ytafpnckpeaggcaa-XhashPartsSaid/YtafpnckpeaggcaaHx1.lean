/-
  Package xhash's small functions, and the document's own, by their contracts: each is the plain function, and leaves the memory as it was. Conditions: words are below 2^64.
-/
import Derived.Test.YtafpnckpeaggcaaText
import Derived.Test.YtafpnckpeaggcaaHash
import Derived.IntWalk
namespace Go.Proofs.Ytafpnckpeaggcaa
open Go.RowKit

theorem ret_int {k : IntKind} {a b : Int} (h : a = b) : Ending.returned (.int k a) = .returned (.int k b) := by rw [h]

theorem rotl_any (x k : Nat) (w : World) (hx : x < 18446744073709551616) (hk : k < 64) :
    Calls Try.prog 28 #[.int .u64 (x : Int), .int .i64 (k : Int)] w fun e w' => e = .returned (.int .u64 (rotW x k : Int)) ∧ w = w' := by
  have HR := Lib.hid (w_rot x k hx)
  have ha := w_and63 k hk
  have h64 : (k : Int) ≤ 64 := by omega
  have h0 : (0 : Int) ≤ (k : Int) := by omega
  clear hx
  go_enter Try.func28, Try.ntmps28
  go_wp2
  go_ret
  exact ⟨ret_int HR.out, rfl⟩

theorem round_any (a x : Nat) (w : World) :
    Calls Try.prog 12 #[.int .u64 (a : Int), .int .u64 (x : Int)] w fun e w' => e = .returned (.int .u64 (roundW a x : Int)) ∧ w = w' := by
  go_enter Try.func12, Try.ntmps12
  go_wp2_with fail
  rw [w_p2, w_add]
  refine (rotl_any _ 31 _ (addW_lt _ _) (by omega)).mono ?_
  rintro e w' ⟨rfl, rfl⟩
  go_wp2_with fail
  go_ret
  exact ⟨ret_int (w_p1 _), rfl⟩

theorem merge_any (a x : Nat) (w : World) (ha : a < 18446744073709551616) :
    Calls Try.prog 19 #[.int .u64 (a : Int), .int .u64 (x : Int)] w fun e w' => e = .returned (.int .u64 (mergeW a x : Int)) ∧ w = w' := by
  have HA := Lib.hid ha
  clear ha
  go_enter Try.func19, Try.ntmps19
  go_wp2_with fail
  refine (round_any 0 x _).mono ?_
  rintro e w' ⟨rfl, rfl⟩
  go_wp2_with fail
  go_ret
  exact ⟨ret_int (by rw [w_xor _ _ HA.out (roundW_lt _ _), w_p1, w_a4]; rfl), rfl⟩

theorem aval_any (x : Nat) (w : World) (hx : x < 18446744073709551616) :
    Calls Try.prog 11 #[.int .u64 (x : Int)] w fun e w' => e = .returned (.int .u64 (avalW x : Int)) ∧ w = w' := by
  have HX := Lib.hid (w_aval x hx)
  clear hx
  go_enter Try.func11, Try.ntmps11
  go_wp2
  go_ret
  exact ⟨ret_int HX.out, rfl⟩

theorem within_any (n : Int) (w : World) :
    Calls Try.prog 27 #[.int .i64 n] w fun e w' => e = .returned (.int .i64 (bitsW n : Int)) ∧ w = w' := by
  have HB := Lib.hid (bitsW_is n)
  go_enter Try.func27, Try.ntmps27
  go_wp2
  all_goals
    go_ret
    exact ⟨ret_int (by have := HB.out; omega), rfl⟩
theorem refbits_any (n : Int) (w : World) :
    Calls Try.prog 34 #[.int .i64 n] w fun e w' => e = .returned (.int .u64 (bitsW n : Int)) ∧ w = w' := by
  have HB := Lib.hid (bitsW_is n)
  go_enter Try.func34, Try.ntmps34
  go_wp2
  all_goals
    go_ret
    exact ⟨ret_int (by have := HB.out; omega), rfl⟩
theorem low_any (h : Nat) (n : Int) (w : World) (hh : h < 18446744073709551616) :
    Calls Try.prog 9 #[.int .u64 (h : Int), .int .i64 n] w fun e w' => e = .returned (.int .u64 (lowW h (bitsW n) : Int)) ∧ w = w' := by
  have HB := Lib.hid (bitsW_le n)
  have HW := Lib.hid (within_any n w)
  generalize bitsW n = k at *
  have hk : (k : Int) ≤ 64 := by have := HB.out; omega
  have HL := Lib.hid (w_low h k hh HB.out)
  clear hh
  go_enter Try.func9, Try.ntmps9
  go_wp2_with fail
  refine (HW.out).mono ?_
  rintro e w' ⟨rfl, rfl⟩
  go_wp2_with fail
  go_ret
  exact ⟨ret_int HL.out, rfl⟩
theorem reflow_any (h : Nat) (n : Int) (w : World) (hh : h < 18446744073709551616) :
    Calls Try.prog 22 #[.int .u64 (h : Int), .int .i64 n] w fun e w' => e = .returned (.int .u64 (lowW h (bitsW n) : Int)) ∧ w = w' := by
  have HB := Lib.hid (bitsW_le n)
  have HW := Lib.hid (refbits_any n w)
  have HL := Lib.hid (lowW_all h hh)
  clear hh
  generalize bitsW n = k at *
  by_cases h64 : k = 64
  · subst h64
    go_enter Try.func22, Try.ntmps22
    go_wp2_with fail
    refine (HW.out).mono ?_
    rintro e w' ⟨rfl, rfl⟩
    go_wp2_with fail
    go_ret
    exact ⟨ret_int (by rw [HL.out]), rfl⟩
  · have hk : (k : Int) ≤ 64 := by have := HB.out; omega
    have hk' : ((k : Int) == 64) = false := by simp; omega
    obtain ⟨m, hm, hm0, HM⟩ : ∃ m : Nat, IntKind.u64.wrap (2 ^ k) = (m : Int) ∧ ¬ m = 0 ∧ Hid (m = 2 ^ k) := w_two k (by have := HB.out; omega)
    clear h64
    go_enter Try.func22, Try.ntmps22
    go_wp2_with fail
    refine (HW.out).mono ?_
    rintro e w' ⟨rfl, rfl⟩
    go_wp2_with fail
    refine (HW.out).mono ?_
    rintro e w' ⟨rfl, rfl⟩
    go_wp2_with fail
    go_ret
    exact ⟨ret_int (by rw [HM.out]; unfold lowW; push_cast; rfl), rfl⟩
theorem high_any (h : Nat) (n : Int) (w : World) :
    Calls Try.prog 10 #[.int .u64 (h : Int), .int .i64 n] w fun e w' => e = .returned (.int .u64 (highW h (bitsW n) : Int)) ∧ w = w' := by
  have HB := Lib.hid (bitsW_le n)
  have HW := Lib.hid (within_any n w)
  generalize bitsW n = k at *
  have hk : (k : Int) ≤ 64 := by have := HB.out; omega
  go_enter Try.func10, Try.ntmps10
  go_wp2_with fail
  refine (HW.out).mono ?_
  rintro e w' ⟨rfl, rfl⟩
  go_wp2_with fail
  go_ret
  exact ⟨ret_int (by unfold highW; push_cast; rfl), rfl⟩
theorem refhigh_any (h : Nat) (n : Int) (w : World) :
    Calls Try.prog 23 #[.int .u64 (h : Int), .int .i64 n] w fun e w' => e = .returned (.int .u64 (highW h (bitsW n) : Int)) ∧ w = w' := by
  have HB := Lib.hid (bitsW_le n)
  have HW := Lib.hid (refbits_any n w)
  generalize bitsW n = k at *
  have hk : (k : Int) ≤ 64 := by have := HB.out; omega
  go_enter Try.func23, Try.ntmps23
  go_wp2_with fail
  refine (HW.out).mono ?_
  rintro e w' ⟨rfl, rfl⟩
  go_wp2_with fail
  go_ret
  exact ⟨ret_int (by unfold highW; push_cast; rfl), rfl⟩
theorem pick_any (x n : Int) (w : World) (hn : 1 ≤ n) (hn2 : n ≤ 9223372036854775807) :
    Calls Try.prog 24 #[.int .i64 (x : Int), .int .i64 n] w fun e w' => e = .returned (.int .i64 (x % n)) ∧ w = w' := by
  have HB := Lib.hid (pick_is x n hn)
  have HC := Lib.hid (Int.emod_lt_of_pos x (show 0 < n by omega))
  have HD := Lib.hid (Int.emod_nonneg x (show n ≠ 0 by omega))
  go_enter Try.func24, Try.ntmps24
  go_wp2
  · go_ret
    exact ⟨ret_int (by have := HB.out; rw [if_pos ‹_›] at this; have := HC.out; have := HD.out; unfold wrap64; omega), rfl⟩
  · go_ret
    exact ⟨ret_int (by rw [← HB.out, if_neg (by omega)]), rfl⟩
theorem refrot_any (x k : Nat) (w : World) (hx : x < 18446744073709551616) (hk : k < 64) :
    Calls Try.prog 33 #[.int .u64 (x : Int), .int .u64 (k : Int)] w fun e w' => e = .returned (.int .u64 (rotW x k : Int)) ∧ w = w' := by
  have HR := Lib.hid (w_rot x k hx)
  have h64 : (k : Int) ≤ 64 := by omega
  have h0 : (0 : Int) ≤ (k : Int) := by omega
  clear hx
  go_enter Try.func33, Try.ntmps33
  go_wp2
  go_ret
  exact ⟨ret_int HR.out, rfl⟩
theorem lawrot_any (x k : Nat) (w : World) (hx : x < 18446744073709551616) (hk : k < 64) :
    Calls Try.prog 26 #[.int .u64 (x : Int), .int .u64 (k : Int)] w fun e w' => e = .returned (.int .u64 (rotW x k : Int)) ∧ w = w' := by
  have HR := Lib.hid (w_rot x k hx)
  have h64 : (k : Int) ≤ 64 := by omega
  have h0 : (0 : Int) ≤ (k : Int) := by omega
  clear hx
  go_enter Try.func26, Try.ntmps26
  go_wp2
  go_ret
  exact ⟨ret_int HR.out, rfl⟩
theorem refround_any (a x : Nat) (w : World) :
    Calls Try.prog 18 #[.int .u64 (a : Int), .int .u64 (x : Int)] w fun e w' => e = .returned (.int .u64 (roundW a x : Int)) ∧ w = w' := by
  go_enter Try.func18, Try.ntmps18
  go_wp2_with fail
  rw [w_p2, w_add]
  refine (refrot_any _ 31 _ (addW_lt _ _) (by omega)).mono ?_
  rintro e w' ⟨rfl, rfl⟩
  go_wp2_with fail
  go_ret
  exact ⟨ret_int (w_p1 _), rfl⟩
theorem refmerge_any (a x : Nat) (w : World) (ha : a < 18446744073709551616) :
    Calls Try.prog 20 #[.int .u64 (a : Int), .int .u64 (x : Int)] w fun e w' => e = .returned (.int .u64 (mergeW a x : Int)) ∧ w = w' := by
  have HA := Lib.hid ha
  clear ha
  go_enter Try.func20, Try.ntmps20
  go_wp2_with fail
  refine (refround_any 0 x _).mono ?_
  rintro e w' ⟨rfl, rfl⟩
  go_wp2_with fail
  go_ret
  exact ⟨ret_int (by rw [w_xor _ _ HA.out (roundW_lt _ _), w_p1, w_a4]; rfl), rfl⟩
theorem refaval_any (x : Nat) (w : World) (hx : x < 18446744073709551616) :
    Calls Try.prog 21 #[.int .u64 (x : Int)] w fun e w' => e = .returned (.int .u64 (avalW x : Int)) ∧ w = w' := by
  have HX := Lib.hid (w_aval x hx)
  clear hx
  go_enter Try.func21, Try.ntmps21
  go_wp2
  go_ret
  exact ⟨ret_int HX.out, rfl⟩
end Go.Proofs.Ytafpnckpeaggcaa
