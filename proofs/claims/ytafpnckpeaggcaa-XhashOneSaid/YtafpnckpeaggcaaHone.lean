/-
  What the hash's steps lose: nothing. Unlike words have unlike ends; a round is one to one in each of both; bits low and high are the word. Plain functions; no program is named here.
-/
import Derived.Test.YtafpnckpeaggcaaHash
namespace Go.Proofs.Ytafpnckpeaggcaa
open Go.RowKit

theorem mulW_back (a p q : Nat) (ha : a < 18446744073709551616) (hpq : p * q % 18446744073709551616 = 1) : mulW (mulW a p) q = a := by
  unfold mulW
  have h1 : a * p % 18446744073709551616 * q % 18446744073709551616 = a * p * q % 18446744073709551616 := by
    rw [Nat.mul_mod, Nat.mod_mod, ← Nat.mul_mod]
  rw [h1, Nat.mul_assoc, Nat.mul_mod, hpq, Nat.mul_one, Nat.mod_mod, Nat.mod_eq_of_lt ha]
theorem mulW_inj {a b p : Nat} (q : Nat) (ha : a < 18446744073709551616) (hb : b < 18446744073709551616) (hpq : p * q % 18446744073709551616 = 1) (h : mulW a p = mulW b p) : a = b := by
  rw [← mulW_back a p q ha hpq, h, mulW_back b p q hb hpq]
theorem inv1 : xp1 * 614540362697595703 % 18446744073709551616 = 1 := by decide +kernel
theorem inv2 : xp2 * 839798700976720815 % 18446744073709551616 = 1 := by decide +kernel
theorem inv3 : xp3 * 16855272203555305545 % 18446744073709551616 = 1 := by decide +kernel
theorem inv5 : xp5 * 14236653164957433613 % 18446744073709551616 = 1 := by decide +kernel
theorem addW_inj {a b c : Nat} (ha : a < 18446744073709551616) (hb : b < 18446744073709551616) (h : addW a c = addW b c) : a = b := by
  unfold addW at h; omega
theorem addW_comm (a b : Nat) : addW a b = addW b a := by unfold addW; rw [Nat.add_comm]
theorem addW_injR {a b c : Nat} (ha : a < 18446744073709551616) (hb : b < 18446744073709551616) (h : addW c a = addW c b) : a = b := by
  rw [addW_comm c a, addW_comm c b] at h; exact addW_inj ha hb h

/-- A word, and itself moved right. -/
def xsh (k x : Nat) : Nat := x ^^^ x >>> k
theorem xsh_twice (k x : Nat) : xsh k (xsh k x) = xsh (k + k) x := by
  unfold xsh
  rw [Nat.shiftRight_xor_distrib, ← Nat.shiftRight_add, Nat.xor_assoc, ← Nat.xor_assoc (x >>> k), Nat.xor_self, Nat.zero_xor]
theorem xsh_all (k x : Nat) (hk : 64 ≤ k) (hx : x < 18446744073709551616) : xsh k x = x := by
  unfold xsh
  have : x >>> k = 0 := by
    rw [Nat.shiftRight_eq_div_pow]
    exact Nat.div_eq_of_lt (Nat.lt_of_lt_of_le hx (show 2 ^ 64 ≤ 2 ^ k from Nat.pow_le_pow_right (by omega) hk))
  rw [this, Nat.xor_zero]
theorem xsh_inj (k : Nat) (hk : 16 ≤ k) {a b : Nat} (ha : a < 18446744073709551616) (hb : b < 18446744073709551616) (h : xsh k a = xsh k b) : a = b := by
  have h2 : xsh (k + k) a = xsh (k + k) b := by rw [← xsh_twice, ← xsh_twice, h]
  have h4 : xsh (k + k + (k + k)) a = xsh (k + k + (k + k)) b := by rw [← xsh_twice (k + k), ← xsh_twice (k + k), h2]
  rw [xsh_all _ _ (by omega) ha, xsh_all _ _ (by omega) hb] at h4
  exact h4
theorem xsh_33 (x : Nat) : x ^^^ x / 8589934592 = xsh 33 x := by unfold xsh; rw [Nat.shiftRight_eq_div_pow]
theorem xsh_29 (x : Nat) : x ^^^ x / 536870912 = xsh 29 x := by unfold xsh; rw [Nat.shiftRight_eq_div_pow]
theorem xsh_32 (x : Nat) : x ^^^ x / 4294967296 = xsh 32 x := by unfold xsh; rw [Nat.shiftRight_eq_div_pow]
theorem aval1_inj {a b : Nat} (ha : a < 18446744073709551616) (hb : b < 18446744073709551616) (h : aval1 a = aval1 b) : a = b := by
  unfold aval1 at h
  have h := mulW_inj _ (xor_lt ha (shr_lt _ ha)) (xor_lt hb (shr_lt _ hb)) inv2 h
  rw [xsh_33, xsh_33] at h
  exact xsh_inj 33 (by omega) ha hb h
theorem aval2_inj {a b : Nat} (ha : a < 18446744073709551616) (hb : b < 18446744073709551616) (h : aval2 a = aval2 b) : a = b := by
  unfold aval2 at h
  have h := mulW_inj _ (xor_lt ha (shr_lt _ ha)) (xor_lt hb (shr_lt _ hb)) inv3 h
  rw [xsh_29, xsh_29] at h
  exact xsh_inj 29 (by omega) ha hb h
theorem avalW_inj {a b : Nat} (ha : a < 18446744073709551616) (hb : b < 18446744073709551616) (h : avalW a = avalW b) : a = b := by
  unfold avalW at h
  rw [xsh_32, xsh_32] at h
  exact aval1_inj ha hb (aval2_inj (aval1_lt _) (aval1_lt _) (xsh_inj 32 (by omega) (aval2_lt _) (aval2_lt _) h))

theorem rotW_is (x k : Nat) (hk : k ≤ 64) (hx : x < 18446744073709551616) : rotW x k = 2 ^ k * (x % 2 ^ (64 - k)) + x / 2 ^ (64 - k) := by
  have e : (18446744073709551616 : Nat) = 2 ^ (64 - k) * 2 ^ k := by rw [← Nat.pow_add, show 64 - k + k = 64 by omega]
  have hd : x / 2 ^ (64 - k) < 2 ^ k := by
    refine Nat.div_lt_of_lt_mul ?_
    rw [← e]; exact hx
  unfold rotW
  rw [e, Nat.mul_mod_mul_right, Nat.mul_comm (x % 2 ^ (64 - k)), ← Nat.two_pow_add_eq_or_of_lt hd]
theorem rotW_inj {a b : Nat} (k : Nat) (hk : k ≤ 64) (ha : a < 18446744073709551616) (hb : b < 18446744073709551616) (h : rotW a k = rotW b k) : a = b := by
  rw [rotW_is a k hk ha, rotW_is b k hk hb] at h
  have e : (18446744073709551616 : Nat) = 2 ^ (64 - k) * 2 ^ k := by rw [← Nat.pow_add, show 64 - k + k = 64 by omega]
  have h1 : a / 2 ^ (64 - k) < 2 ^ k := Nat.div_lt_of_lt_mul (by rw [← e]; exact ha)
  have h2 : b / 2 ^ (64 - k) < 2 ^ k := Nat.div_lt_of_lt_mul (by rw [← e]; exact hb)
  have h3 := congrArg (· / 2 ^ k) h
  have h4 := congrArg (· % 2 ^ k) h
  have hp : 0 < 2 ^ k := Nat.pow_pos (by omega)
  simp only [Nat.mul_add_div hp, Nat.div_eq_of_lt h1, Nat.div_eq_of_lt h2, Nat.add_zero, Nat.mul_add_mod, Nat.mod_eq_of_lt h1, Nat.mod_eq_of_lt h2] at h3 h4
  rw [← Nat.div_add_mod a (2 ^ (64 - k)), ← Nat.div_add_mod b (2 ^ (64 - k)), h3, h4]
theorem xor_inj {c a b : Nat} (h : c ^^^ a = c ^^^ b) : a = b := by
  have := congrArg (c ^^^ ·) h
  simpa [← Nat.xor_assoc] using this

theorem round_inj1 {a b w : Nat} (ha : a < 18446744073709551616) (hb : b < 18446744073709551616) (h : roundW a w = roundW b w) : a = b := by
  unfold roundW at h
  exact addW_inj ha hb (rotW_inj 31 (by omega) (addW_lt _ _) (addW_lt _ _) (mulW_inj _ (rotW_lt _ _ (addW_lt _ _)) (rotW_lt _ _ (addW_lt _ _)) inv1 h))
theorem round_inj2 {a b w : Nat} (ha : a < 18446744073709551616) (hb : b < 18446744073709551616) (h : roundW w a = roundW w b) : a = b := by
  unfold roundW at h
  exact mulW_inj _ ha hb inv2 (addW_injR (mulW_lt _ _) (mulW_lt _ _) (rotW_inj 31 (by omega) (addW_lt _ _) (addW_lt _ _) (mulW_inj _ (rotW_lt _ _ (addW_lt _ _)) (rotW_lt _ _ (addW_lt _ _)) inv1 h)))
theorem round_mod (a w : Nat) : roundW a (w % 18446744073709551616) = roundW a w := by
  unfold roundW mulW
  rw [Nat.mod_mul_mod]
theorem merge_inj {a b w : Nat} (ha : a < 18446744073709551616) (hb : b < 18446744073709551616) (hw : w < 18446744073709551616) (h : mergeW w a = mergeW w b) : a = b := by
  unfold mergeW at h
  exact round_inj2 ha hb (xor_inj (mulW_inj _ (xor_lt hw (roundW_lt _ _)) (xor_lt hw (roundW_lt _ _)) inv1 (addW_inj (mulW_lt _ _) (mulW_lt _ _) h)))

/-- As the walk compares. -/
theorem ne_int {a b : Nat} (h : a ≠ b) : ((a : Int) == (b : Int)) = false := by
  rw [beq_eq_false_iff_ne]; omega

/-! Bits low and high. -/
theorem bitsW_nat (k : Nat) (hk : k ≤ 64) : bitsW (k : Int) = k := by have := bitsW_is (k : Int); omega
theorem bits_both (a k : Nat) (ha : a < 18446744073709551616) : bits .or .u64 (IntKind.u64.wrap ((highW a k : Int) * 2 ^ (64 - k))) (lowW a (64 - k) : Int) = (a : Int) := by
  have h1 : highW a k * 2 ^ (64 - k) + lowW a (64 - k) = a := by unfold highW lowW; rw [Nat.mul_comm]; exact Nat.div_add_mod a _
  have h2 : lowW a (64 - k) < 2 ^ (64 - k) := Nat.mod_lt _ (Nat.pow_pos (by omega))
  have h3 : lowW a (64 - k) ≤ a := Nat.mod_le _ _
  generalize lowW a (64 - k) = lo at *
  have e1 : IntKind.u64.wrap ((highW a k : Int) * 2 ^ (64 - k)) = ((highW a k * 2 ^ (64 - k) : Nat) : Int) := by
    rw [show (highW a k : Int) * 2 ^ (64 - k) = ((highW a k * 2 ^ (64 - k) : Nat) : Int) from by push_cast; rfl, w_nat, Nat.mod_eq_of_lt (by omega)]
  rw [e1, u64_or_nat _ _ (by omega) (by omega), Nat.mul_comm, ← Nat.two_pow_add_eq_or_of_lt h2, Nat.mul_comm, h1]
theorem high_none (a : Nat) (ha : a < 18446744073709551616) : highW a 0 = 0 := Nat.div_eq_of_lt ha
theorem high_all (a : Nat) : highW a 64 = a := by unfold highW; rw [Nat.sub_self, Nat.pow_zero, Nat.div_one]
theorem low_none (a : Nat) : lowW a 0 = 0 := by unfold lowW; rw [Nat.pow_zero, Nat.mod_one]
end Go.Proofs.Ytafpnckpeaggcaa
