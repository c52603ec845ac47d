/-
  What was laid down is read as it: numbers, words and blocks, whatever stands behind; unlike numbers have unlike bytes; a number cut short, or with a nought more, is none. Plain functions; no program is named here.
-/
import Derived.Test.YthakkaffjnkhgaaNum
namespace Go.Proofs.Ythakkaffjnkhgaa
set_option maxRecDepth 100000

theorem firstF_num (f : Nat) : ∀ (i acc n : Nat) (rest : List UInt8), i + f = 9 → n < 2 ^ (64 - 7 * i) → (0 < i → 1 ≤ n) →
    firstF i acc (numF f n ++ rest) = (acc + n * 2 ^ (7 * i), i + (numF f n).length, 0) := by
  induction f with
  | zero =>
    intro i acc n rest hi hn h0
    have h9 : i = 9 := by omega
    subst h9
    have hn2 : n < 2 := by simpa using hn
    have hx : (UInt8.ofNat n).toNat = n := by rw [u8n]; omega
    simp only [numF, List.cons_append, List.nil_append, firstF, hx, List.length_cons, List.length_nil]
    rw [if_neg (by have := h0 (by omega); omega), if_pos (by omega), show n % 128 = n by omega]
  | succ f ih =>
    intro i acc n rest hi hn h0
    by_cases hs : n < 128
    · have hx : (UInt8.ofNat n).toNat = n := by rw [u8n]; omega
      rw [numF_small _ _ hs]
      simp only [List.cons_append, List.nil_append, firstF, hx, List.length_cons, List.length_nil]
      rw [if_neg (by have h1 := h0; omega), if_pos hs, show n % 128 = n by omega]
    · have hx : (UInt8.ofNat (n % 128 + 128)).toNat = n % 128 + 128 := by rw [u8n]; omega
      rw [numF_step _ _ (by omega)]
      simp only [List.cons_append, firstF, hx, List.length_cons]
      rw [if_neg (by omega), if_neg (by omega), ih (i + 1) _ (n / 128) rest (by omega) ?_ (by omega)]
      · have e : acc + (n % 128 + 128) % 128 * 2 ^ (7 * i) + n / 128 * 2 ^ (7 * (i + 1)) = acc + n * 2 ^ (7 * i) := by
          have e1 : (2 : Nat) ^ (7 * (i + 1)) = 128 * 2 ^ (7 * i) := by
            rw [show 7 * (i + 1) = 7 + 7 * i by omega, Nat.pow_add]
          have e2 : (n % 128 + 128) % 128 = n % 128 := by omega
          have e3 : n * 2 ^ (7 * i) = n % 128 * 2 ^ (7 * i) + n / 128 * (128 * 2 ^ (7 * i)) := by
            rw [← Nat.mul_assoc, ← Nat.add_mul]
            congr 1
            omega
          rw [e1, e2, e3]
          omega
        rw [e, show i + 1 + (numF f (n / 128)).length = i + ((numF f (n / 128)).length + 1) by omega]
      · have e : 64 - 7 * i = 7 + (64 - 7 * (i + 1)) := by omega
        rw [e, Nat.pow_add] at hn
        exact Nat.div_lt_of_lt_mul hn
theorem firstB_num (n : Nat) (rest : List UInt8) (hn : n < 18446744073709551616) : firstB (numB n ++ rest) = (n, (numB n).length, 0) := by
  have := firstF_num 9 0 0 n rest (by omega) (by simpa using hn) (by omega)
  simpa [firstB, numB] using this
theorem numB_inj (n m : Nat) (hn : n < 18446744073709551616) (hm : m < 18446744073709551616) (h : numB n = numB m) : n = m := by
  have h1 := firstB_num n [] hn
  have h2 := firstB_num m [] hm
  rw [h, h2] at h1
  simpa using congrArg Prod.fst h1.symm
theorem firstF_cut (f : Nat) : ∀ (i acc n : Nat), i + f = 9 → n < 2 ^ (64 - 7 * i) → firstF i acc (numF f n).dropLast = (0, 0, 5) := by
  induction f with
  | zero => intro i acc n _ _; simp [numF, firstF]
  | succ f ih =>
    intro i acc n hi hn
    by_cases hs : n < 128
    · rw [numF_small _ _ hs]; simp [firstF]
    · have hx : (UInt8.ofNat (n % 128 + 128)).toNat = n % 128 + 128 := by rw [u8n]; omega
      have hne : numF f (n / 128) ≠ [] := by have := numF_len f (n / 128); intro h; rw [h] at this; simp at this
      rw [numF_step _ _ (by omega), List.dropLast_cons_of_ne_nil hne]
      simp only [firstF, hx]
      rw [if_neg (by omega), if_neg (by omega)]
      refine ih (i + 1) _ (n / 128) (by omega) ?_
      have e : 64 - 7 * i = 7 + (64 - 7 * (i + 1)) := by omega
      rw [e, Nat.pow_add] at hn
      exact Nat.div_lt_of_lt_mul hn
theorem firstB_cut (n : Nat) (hn : n < 18446744073709551616) : firstB ((numB n).take ((numB n).length - 1)) = (0, 0, 5) := by
  have := firstF_cut 9 0 0 n (by omega) (by simpa using hn)
  rw [List.dropLast_eq_take] at this
  exact this
theorem firstF_long (f : Nat) (y : UInt8) (hy : 128 ≤ y.toNat) : ∀ (i acc n : Nat), i + f = 9 → n < 2 ^ (64 - 7 * i) → firstF i acc ((numF f n).set ((numF f n).length - 1) y ++ [0]) = (0, 0, 4) := by
  induction f with
  | zero =>
    intro i acc n hi hn
    have h9 : i = 9 := by omega
    subst h9
    show firstF 9 acc [y, 0] = _
    rw [firstF, if_pos (by omega)]
  | succ f ih =>
    intro i acc n hi hn
    by_cases hs : n < 128
    · rw [numF_small _ _ hs]
      show firstF i acc [y, 0] = _
      rw [firstF, if_neg (by omega), if_neg (by omega), firstF, if_pos (by right; exact ⟨by omega, rfl⟩)]
    · have hx : (UInt8.ofNat (n % 128 + 128)).toNat = n % 128 + 128 := by rw [u8n]; omega
      have hl := (numF_len f (n / 128)).1
      rw [numF_step _ _ (by omega)]
      rw [List.length_cons, show (numF f (n / 128)).length + 1 - 1 = ((numF f (n / 128)).length - 1) + 1 by omega]
      simp only [List.set_cons_succ, List.cons_append, firstF, hx]
      rw [if_neg (by omega), if_neg (by omega)]
      refine ih (i + 1) _ (n / 128) (by omega) ?_
      have e : 64 - 7 * i = 7 + (64 - 7 * (i + 1)) := by omega
      rw [e, Nat.pow_add] at hn
      exact Nat.div_lt_of_lt_mul hn
theorem firstB_long (n : Nat) (y : UInt8) (hy : 128 ≤ y.toNat) (hn : n < 18446744073709551616) : firstB ((numB n).set ((numB n).length - 1) y ++ [0]) = (0, 0, 4) :=
  firstF_long 9 y hy 0 0 n (by omega) (by simpa using hn)

theorem wordN_word (k m : Nat) : wordN (wordB k m) = m % 256 ^ k := by
  induction k generalizing m with
  | zero => simp [wordB, wordN, Nat.mod_one]
  | succ k ih =>
    have hx : (UInt8.ofNat (m % 256)).toNat = m % 256 := by rw [u8n]; omega
    rw [wordB, wordN, ih, hx, Nat.pow_succ', Nat.mod_mul]

theorem read_num (n : Nat) (r : List UInt8) (hn : n < 18446744073709551616) : uptoB (numB n ++ r) 0 18446744073709551615 = (n, r, 0) := by
  unfold uptoB
  rw [firstB_num n r hn]
  rw [if_neg (by omega), if_neg (by simp), if_neg (by simp only; omega)]
  simp
theorem read_word (k m : Nat) (r : List UInt8) (hk : k = 2 ∨ k = 4 ∨ k = 8) : wordR (wordB k m ++ r) 0 (k : Int) = (m % 256 ^ k, r, 0) := by
  unfold wordR takeB
  rw [if_neg (by omega), if_pos (by omega), Int.toNat_natCast, if_pos (by rw [List.length_append, wordB_len]; omega)]
  simp only [List.drop_zero, Nat.zero_add]
  rw [List.take_left' (wordB_len k m), List.drop_left' (wordB_len k m), wordN_word]
theorem read_block (x r : List UInt8) (hx : x.length < 18446744073709551616) : blockB (numB x.length ++ (x ++ r)) 0 = (x, r, 0) := by
  unfold blockB
  rw [firstB_num _ _ hx, if_neg (by omega), if_neg (by simp)]
  unfold takeB
  simp only
  rw [if_pos (by simp only [List.length_append]; omega), List.drop_left' rfl, List.take_left' rfl, ← List.drop_drop, List.drop_left' rfl, List.drop_left' rfl]
theorem read_cut (n : Nat) (hn : n < 18446744073709551616) : uptoB ((numB n).take ((numB n).length - 1)) 0 18446744073709551615 = (0, (numB n).take ((numB n).length - 1), 5) := by
  unfold uptoB
  rw [firstB_cut n hn, if_neg (by omega), if_pos (by simp)]
theorem read_long (n : Nat) (y : UInt8) (hy : 128 ≤ y.toNat) (hn : n < 18446744073709551616) : uptoB ((numB n).set ((numB n).length - 1) y ++ [0]) 0 18446744073709551615 = (0, (numB n).set ((numB n).length - 1) y ++ [0], 4) := by
  unfold uptoB
  rw [firstB_long n y hy hn, if_neg (by omega), if_pos (by simp)]
end Go.Proofs.Ythakkaffjnkhgaa
