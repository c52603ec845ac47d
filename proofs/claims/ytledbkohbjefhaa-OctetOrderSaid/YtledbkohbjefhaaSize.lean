/-
  How many bytes a number has, told by how many bits it has. Plain numbers; no program is named here.
-/
import Derived.Test.YtledbkohbjefhaaNum
import Derived.Lib.BitFns
import Derived.Laws.BitsAllLaws
namespace Go.Proofs.Ytledbkohbjefhaa
open Go.Lib (bitLen bitLen_half bitLen_shift)

theorem small_bits : ∀ n : Fin 128, 1 ≤ n.val → (bitLen n.val + 6) / 7 = 1 := by decide +kernel
theorem numF_bits (f n : Nat) (h1 : 1 ≤ n) (h64 : n < 18446744073709551616) (hf : n < 2 ^ (7 * (f + 1))) : (numF f n).length = (bitLen n + 6) / 7 := by
  induction f generalizing n with
  | zero =>
    have := small_bits ⟨n, by simpa using hf⟩ h1
    simp only at this
    rw [this]; rfl
  | succ f ih =>
    by_cases h : n < 128
    · have := small_bits ⟨n, h⟩ h1
      simp only at this
      rw [this, numF_small _ _ h]; rfl
    · rw [numF_step _ _ (by omega), List.length_cons, ih (n / 128) (by omega) (by omega) ?_, bitLen_shift 7 n (by omega) (by omega)]
      · rw [show (2 : Nat) ^ 7 = 128 from rfl]; omega
      · have e : 7 * (f + 1 + 1) = 7 * (f + 1) + 7 := by omega
        rw [e, Nat.pow_add] at hf
        exact Nat.div_lt_of_lt_mul (by rw [Nat.mul_comm]; exact hf)
theorem or_one (n : Nat) (h1 : 1 ≤ n) (h64 : n < 18446744073709551616) : bitLen (n ||| 1) = bitLen n := by
  have hlt : n ||| 1 < 2 ^ 64 := Nat.or_lt_two_pow (by omega) (by omega)
  have hne : n ||| 1 ≠ 0 := by
    have := Nat.left_le_or (n := n) (m := 1); omega
  rw [bitLen_half _ hne hlt, bitLen_half n (by omega) (by omega), Nat.or_div_two]
  simp
theorem numB_bits (n : Nat) (h64 : n < 18446744073709551616) : (numB n).length = (bitLen (n ||| 1) + 6) / 7 := by
  by_cases h : n = 0
  · subst h; decide +kernel
  · rw [or_one n (by omega) h64]
    exact numF_bits 9 n (by omega) h64 (by omega)
theorem bitLen_le (n : Nat) (h64 : n < 18446744073709551616) : bitLen (n ||| 1) ≤ 70 := by
  have h1 := numB_len n
  have h2 := numB_bits n h64
  omega
theorem or_one_int (n : Nat) (h64 : n < 18446744073709551616) : bits .or .u64 (n : Int) 1 = ((n ||| 1 : Nat) : Int) ∧ n ||| 1 < 18446744073709551616 :=
  ⟨u64_or_nat n 1 h64 (by omega), by
    have : n ||| 1 < 2 ^ 64 := Nat.or_lt_two_pow (by omega) (by omega)
    omega⟩
end Go.Proofs.Ytledbkohbjefhaa
