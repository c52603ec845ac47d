/-
  The texts Num2, PgA, PgB, PgC, PgD, PgE, PgF, PgG, PgH in one. Conditions: as each part says.
-/
import Derived.Test.YtknagdbhhfelnaaDoorMg0
import Derived.Test.YtknagdbhhfelnaaDoorCZer
import Derived.Test.YtknagdbhhfelnaaDoorMg1
import Derived.Test.YtknagdbhhfelnaaDoorMg2
import Derived.Lib.BufferWrite
import Derived.Deep.Slices
import Derived.Deep.Strs
import Derived.LaidMore
import Derived.Lay
import Derived.SevenTiedAt
import Derived.Stop.Joined
import Derived.Test.YtknagdbhhfelnaaDoorTie
import Derived.Test.YtknagdbhhfelnaaDoorCards
/-
  What was laid down is read as it: numbers, words and blocks, whatever stands behind; unlike numbers have unlike bytes; a number cut short, or with a nought more, is none. Plain functions; no program is named here.
-/
namespace Go.Proofs.YtknagdbhhfelnaaDoor
set_option maxRecDepth 100000

theorem firstF_num (f : Nat) : ∀ (i acc n : Nat) (rest : List UInt8), i + f = 9 → n < 2 ^ (64 - 7 * i) → (0 < i → 1 ≤ n) →
    firstF i acc (numF f n ++ rest) = (acc + n * 2 ^ (7 * i), i + (numF f n).length, 0) := by
  induction f with
  | zero =>
    intro i acc n rest hi hn h0
    have h9 : i = 9 := by omega
    subst h9
    have hn2 : n < 2 := by simpa using hn
    have hx : (UInt8.ofNat n).toNat = n := by rw [u8n]; omega
    simp only [numF, List.cons_append, List.nil_append, firstF, hx, List.length_cons, List.length_nil]
    rw [if_neg (by have := h0 (by omega); omega), if_pos (by omega), show n % 128 = n by omega]
  | succ f ih =>
    intro i acc n rest hi hn h0
    by_cases hs : n < 128
    · have hx : (UInt8.ofNat n).toNat = n := by rw [u8n]; omega
      rw [numF_small _ _ hs]
      simp only [List.cons_append, List.nil_append, firstF, hx, List.length_cons, List.length_nil]
      rw [if_neg (by have h1 := h0; omega), if_pos hs, show n % 128 = n by omega]
    · have hx : (UInt8.ofNat (n % 128 + 128)).toNat = n % 128 + 128 := by rw [u8n]; omega
      rw [numF_step _ _ (by omega)]
      simp only [List.cons_append, firstF, hx, List.length_cons]
      rw [if_neg (by omega), if_neg (by omega), ih (i + 1) _ (n / 128) rest (by omega) ?_ (by omega)]
      · have e : acc + (n % 128 + 128) % 128 * 2 ^ (7 * i) + n / 128 * 2 ^ (7 * (i + 1)) = acc + n * 2 ^ (7 * i) := by
          have e1 : (2 : Nat) ^ (7 * (i + 1)) = 128 * 2 ^ (7 * i) := by
            rw [show 7 * (i + 1) = 7 + 7 * i by omega, Nat.pow_add]
          have e2 : (n % 128 + 128) % 128 = n % 128 := by omega
          have e3 : n * 2 ^ (7 * i) = n % 128 * 2 ^ (7 * i) + n / 128 * (128 * 2 ^ (7 * i)) := by
            rw [← Nat.mul_assoc, ← Nat.add_mul]
            congr 1
            omega
          rw [e1, e2, e3]
          omega
        rw [e, show i + 1 + (numF f (n / 128)).length = i + ((numF f (n / 128)).length + 1) by omega]
      · have e : 64 - 7 * i = 7 + (64 - 7 * (i + 1)) := by omega
        rw [e, Nat.pow_add] at hn
        exact Nat.div_lt_of_lt_mul hn
theorem firstB_num (n : Nat) (rest : List UInt8) (hn : n < 18446744073709551616) : firstB (numB n ++ rest) = (n, (numB n).length, 0) := by
  have := firstF_num 9 0 0 n rest (by omega) (by simpa using hn) (by omega)
  simpa [firstB, numB] using this
theorem numB_inj (n m : Nat) (hn : n < 18446744073709551616) (hm : m < 18446744073709551616) (h : numB n = numB m) : n = m := by
  have h1 := firstB_num n [] hn
  have h2 := firstB_num m [] hm
  rw [h, h2] at h1
  simpa using congrArg Prod.fst h1.symm
theorem firstF_cut (f : Nat) : ∀ (i acc n : Nat), i + f = 9 → n < 2 ^ (64 - 7 * i) → firstF i acc (numF f n).dropLast = (0, 0, 5) := by
  induction f with
  | zero => intro i acc n _ _; simp [numF, firstF]
  | succ f ih =>
    intro i acc n hi hn
    by_cases hs : n < 128
    · rw [numF_small _ _ hs]; simp [firstF]
    · have hx : (UInt8.ofNat (n % 128 + 128)).toNat = n % 128 + 128 := by rw [u8n]; omega
      have hne : numF f (n / 128) ≠ [] := by have := numF_len f (n / 128); intro h; rw [h] at this; simp at this
      rw [numF_step _ _ (by omega), List.dropLast_cons_of_ne_nil hne]
      simp only [firstF, hx]
      rw [if_neg (by omega), if_neg (by omega)]
      refine ih (i + 1) _ (n / 128) (by omega) ?_
      have e : 64 - 7 * i = 7 + (64 - 7 * (i + 1)) := by omega
      rw [e, Nat.pow_add] at hn
      exact Nat.div_lt_of_lt_mul hn
theorem firstB_cut (n : Nat) (hn : n < 18446744073709551616) : firstB ((numB n).take ((numB n).length - 1)) = (0, 0, 5) := by
  have := firstF_cut 9 0 0 n (by omega) (by simpa using hn)
  rw [List.dropLast_eq_take] at this
  exact this
theorem firstF_long (f : Nat) (y : UInt8) (hy : 128 ≤ y.toNat) : ∀ (i acc n : Nat), i + f = 9 → n < 2 ^ (64 - 7 * i) → firstF i acc ((numF f n).set ((numF f n).length - 1) y ++ [0]) = (0, 0, 4) := by
  induction f with
  | zero =>
    intro i acc n hi hn
    have h9 : i = 9 := by omega
    subst h9
    show firstF 9 acc [y, 0] = _
    rw [firstF, if_pos (by omega)]
  | succ f ih =>
    intro i acc n hi hn
    by_cases hs : n < 128
    · rw [numF_small _ _ hs]
      show firstF i acc [y, 0] = _
      rw [firstF, if_neg (by omega), if_neg (by omega), firstF, if_pos (by right; exact ⟨by omega, rfl⟩)]
    · have hx : (UInt8.ofNat (n % 128 + 128)).toNat = n % 128 + 128 := by rw [u8n]; omega
      have hl := (numF_len f (n / 128)).1
      rw [numF_step _ _ (by omega)]
      rw [List.length_cons, show (numF f (n / 128)).length + 1 - 1 = ((numF f (n / 128)).length - 1) + 1 by omega]
      simp only [List.set_cons_succ, List.cons_append, firstF, hx]
      rw [if_neg (by omega), if_neg (by omega)]
      refine ih (i + 1) _ (n / 128) (by omega) ?_
      have e : 64 - 7 * i = 7 + (64 - 7 * (i + 1)) := by omega
      rw [e, Nat.pow_add] at hn
      exact Nat.div_lt_of_lt_mul hn
theorem firstB_long (n : Nat) (y : UInt8) (hy : 128 ≤ y.toNat) (hn : n < 18446744073709551616) : firstB ((numB n).set ((numB n).length - 1) y ++ [0]) = (0, 0, 4) :=
  firstF_long 9 y hy 0 0 n (by omega) (by simpa using hn)

theorem wordN_word (k m : Nat) : wordN (wordB k m) = m % 256 ^ k := by
  induction k generalizing m with
  | zero => simp [wordB, wordN, Nat.mod_one]
  | succ k ih =>
    have hx : (UInt8.ofNat (m % 256)).toNat = m % 256 := by rw [u8n]; omega
    rw [wordB, wordN, ih, hx, Nat.pow_succ', Nat.mod_mul]

theorem read_num (n : Nat) (r : List UInt8) (hn : n < 18446744073709551616) : uptoB (numB n ++ r) 0 18446744073709551615 = (n, r, 0) := by
  unfold uptoB
  rw [firstB_num n r hn]
  rw [if_neg (by omega), if_neg (by simp), if_neg (by simp only; omega)]
  simp
theorem read_word (k m : Nat) (r : List UInt8) (hk : k = 2 ∨ k = 4 ∨ k = 8) : wordR (wordB k m ++ r) 0 (k : Int) = (m % 256 ^ k, r, 0) := by
  unfold wordR takeB
  rw [if_neg (by omega), if_pos (by omega), Int.toNat_natCast, if_pos (by rw [List.length_append, wordB_len]; omega)]
  simp only [List.drop_zero, Nat.zero_add]
  rw [List.take_left' (wordB_len k m), List.drop_left' (wordB_len k m), wordN_word]
theorem read_block (x r : List UInt8) (hx : x.length < 18446744073709551616) : blockB (numB x.length ++ (x ++ r)) 0 = (x, r, 0) := by
  unfold blockB
  rw [firstB_num _ _ hx, if_neg (by omega), if_neg (by simp)]
  unfold takeB
  simp only
  rw [if_pos (by simp only [List.length_append]; omega), List.drop_left' rfl, List.take_left' rfl, ← List.drop_drop, List.drop_left' rfl, List.drop_left' rfl]
theorem read_cut (n : Nat) (hn : n < 18446744073709551616) : uptoB ((numB n).take ((numB n).length - 1)) 0 18446744073709551615 = (0, (numB n).take ((numB n).length - 1), 5) := by
  unfold uptoB
  rw [firstB_cut n hn, if_neg (by omega), if_pos (by simp)]
theorem read_long (n : Nat) (y : UInt8) (hy : 128 ≤ y.toNat) (hn : n < 18446744073709551616) : uptoB ((numB n).set ((numB n).length - 1) y ++ [0]) 0 18446744073709551615 = (0, (numB n).set ((numB n).length - 1) y ++ [0], 4) := by
  unfold uptoB
  rw [firstB_long n y hy hn, if_neg (by omega), if_pos (by simp)]
end Go.Proofs.YtknagdbhhfelnaaDoor

/-
  Pages as plain bytes: what a page's bytes are, which bytes are a page's, and that one byte turned is none. Plain functions; no program is named here.
-/
namespace Go.Proofs.YtknagdbhhfelnaaDoor
set_option maxRecDepth 100000

/-! Noughts at the end. -/
def trimR : List UInt8 → List UInt8
  | [] => []
  | x :: l => match trimR l with
    | [] => if x = 0 then [] else [x]
    | y :: m => x :: y :: m
theorem trimR_cons (x : UInt8) (l : List UInt8) : trimR (x :: l) = if trimR l = [] then (if x = 0 then [] else [x]) else x :: trimR l := by
  rw [trimR]
  cases trimR l with
  | nil => simp
  | cons y m => simp
theorem trimR_zero (l : List UInt8) : trimR (l ++ [0]) = trimR l := by
  induction l with
  | nil => rfl
  | cons x l ih => rw [List.cons_append, trimR_cons, trimR_cons, ih]
theorem trimR_last (l : List UInt8) (x : UInt8) (h : x ≠ 0) : trimR (l ++ [x]) = l ++ [x] := by
  induction l with
  | nil => simp [trimR, h]
  | cons y l ih => rw [List.cons_append, trimR_cons, ih]; simp
theorem trimR_zeros (l : List UInt8) (n : Nat) : trimR (l ++ List.replicate n 0) = trimR l := by
  induction n with
  | zero => simp
  | succ n ih => rw [List.replicate_succ', ← List.append_assoc, trimR_zero, ih]
theorem trimR_len (l : List UInt8) : (trimR l).length ≤ l.length := by
  induction l with
  | nil => simp [trimR]
  | cons x l ih =>
    rw [trimR_cons]
    split
    · split <;> simp
    · simp; omega
theorem trimR_is (l : List UInt8) : l = trimR l ++ List.replicate (l.length - (trimR l).length) 0 := by
  induction l with
  | nil => rfl
  | cons x l ih =>
    rw [trimR_cons]
    have hl := trimR_len l
    by_cases h : trimR l = []
    · rw [if_pos h]
      rw [h] at ih
      simp at ih
      by_cases hx : x = 0
      · rw [if_pos hx, hx, List.nil_append]
        conv => lhs; rw [ih]
        simp [List.replicate_succ]
      · rw [if_neg hx]
        conv => lhs; rw [ih]
        simp
    · rw [if_neg h]
      conv => lhs; rw [ih]
      simp
theorem trimR_getD (l : List UInt8) (i : Nat) : (trimR l).getD i 0 = l.getD i 0 := by
  conv => rhs; rw [trimR_is l]
  simp only [List.getD_eq_getElem?_getD, List.getElem?_append, List.getElem?_replicate]
  split
  · rfl
  · rename_i h
    rw [List.getElem?_eq_none (by omega)]
    split <;> rfl
theorem trimR_end (l : List UInt8) (h : trimR l ≠ []) : (trimR l).getLast h ≠ 0 := by
  induction l with
  | nil => exact absurd rfl h
  | cons x l ih =>
    by_cases hl : trimR l = []
    · by_cases hx : x = 0
      · exact absurd (by rw [trimR_cons, if_pos hl, if_pos hx]) h
      · have e : trimR (x :: l) = [x] := by rw [trimR_cons, if_pos hl, if_neg hx]
        simp only [e, List.getLast_singleton]
        exact hx
    · have e : trimR (x :: l) = x :: trimR l := by rw [trimR_cons, if_neg hl]
      simp only [e, List.getLast_cons hl]
      exact ih hl
theorem trimR_longer {l m : List UInt8} (h : ∀ i, l.getD i 0 = m.getD i 0) : (trimR m).length ≤ (trimR l).length := by
  rcases Nat.lt_or_ge (trimR l).length (trimR m).length with hlt | hge
  · exfalso
    have hne : trimR m ≠ [] := by intro e; rw [e] at hlt; simp at hlt
    refine trimR_end m hne ?_
    have h1 := h ((trimR m).length - 1)
    rw [← trimR_getD l, ← trimR_getD m] at h1
    rw [List.getLast_eq_getElem hne]
    have h2 : (trimR m).getD ((trimR m).length - 1) 0 = (trimR m)[(trimR m).length - 1]'(by omega) := by
      rw [List.getD_eq_getElem?_getD, List.getElem?_eq_getElem (by omega)]; rfl
    rw [← h2, ← h1, List.getD_eq_getElem?_getD, List.getElem?_eq_none (by omega)]
    rfl
  · exact hge
theorem trimR_iff (l m : List UInt8) : trimR l = trimR m ↔ ∀ i, l.getD i 0 = m.getD i 0 := by
  constructor
  · intro h i
    rw [← trimR_getD l, ← trimR_getD m, h]
  · intro h
    have hlen : (trimR l).length = (trimR m).length := Nat.le_antisymm (trimR_longer fun i => (h i).symm) (trimR_longer h)
    refine List.ext_getElem hlen fun i h1 h2 => ?_
    have := h i
    rw [← trimR_getD l, ← trimR_getD m, List.getD_eq_getElem?_getD, List.getD_eq_getElem?_getD, List.getElem?_eq_getElem h1, List.getElem?_eq_getElem h2] at this
    exact this

/-! A page's bytes. -/
def padB (l : List UInt8) : List UInt8 := l ++ zsB (4080 - l.length)
theorem padB_len {l : List UInt8} (h : l.length ≤ 4080) : (padB l).length = 4080 := by unfold padB; rw [List.length_append, zsB_len]; omega
theorem padB_full {l : List UInt8} (h : l.length = 4080) : padB l = l := by unfold padB zsB; rw [h]; simp
theorem padB_trim (l : List UInt8) : trimR (padB l) = trimR l := trimR_zeros _ _
theorem padB_iff {l m : List UInt8} (hl : l.length ≤ 4080) (hm : m.length ≤ 4080) : padB l = padB m ↔ trimR l = trimR m := by
  constructor
  · intro h; rw [← padB_trim l, ← padB_trim m, h]
  · intro h
    rw [trimR_is (padB l), trimR_is (padB m), padB_trim, padB_trim, padB_len hl, padB_len hm, h]
def headB (k n : Nat) : List UInt8 := [84, 77, 1, UInt8.ofNat k] ++ (wordB 4 n ++ zsB 4)
theorem headB_len (k n : Nat) : (headB k n).length = 12 := by simp [headB, wordB_len, zsB_len]
/-- The sum of a page's bytes, with noughts in its place. -/
def sumB (l : List UInt8) : Nat := sumC (l.take 12 ++ zsB 4 ++ l.drop 16)
theorem sumB_lt (l : List UInt8) : sumB l < 4294967296 := sumC_lt _
def pageB (k n : Nat) (l : List UInt8) : List UInt8 := headB k n ++ (wordB 4 (sumC (headB k n ++ zsB 4 ++ padB l)) ++ padB l)
theorem pageB_len {k n : Nat} {l : List UInt8} (h : l.length ≤ 4080) : (pageB k n l).length = 4096 := by
  unfold pageB
  rw [List.length_append, List.length_append, headB_len, wordB_len, padB_len h]
/-- Bytes that are a page's. -/
def okB (l : List UInt8) : Prop := (l.length = 4096 ∧ l.take 3 = [84, 77, 1]) ∧ (1 ≤ (l.getD 3 0).toNat ∧ (l.getD 3 0).toNat ≤ 7) ∧ (l.drop 8).take 4 = zsB 4 ∧ (l.drop 12).take 4 = wordB 4 (sumB l)
instance (l : List UInt8) : Decidable (okB l) := by unfold okB; infer_instance
def kindB (l : List UInt8) : Nat := if okB l then (l.getD 3 0).toNat else 0
def numW (l : List UInt8) : Nat := wordN ((l.drop 4).take 4)
theorem numW_lt (l : List UInt8) : numW l < 4294967296 := by
  have h := wordN_lt ((l.drop 4).take 4)
  have h2 : ((l.drop 4).take 4).length ≤ 4 := by rw [List.length_take]; omega
  have h3 : 256 ^ ((l.drop 4).take 4).length ≤ 256 ^ 4 := Nat.pow_le_pow_right (by omega) h2
  unfold numW
  omega
theorem kindB_zero (l : List UInt8) : kindB l = 0 ↔ ¬ okB l := by
  unfold kindB
  by_cases h : okB l
  · rw [if_pos h]
    have := h.2.1.1
    constructor
    · intro e; omega
    · intro e; exact absurd h e
  · rw [if_neg h]; simp [h]
theorem kindB_ok {l : List UInt8} (h : okB l) : kindB l = (l.getD 3 0).toNat := if_pos h
theorem pageB_take (k n : Nat) (l : List UInt8) : (pageB k n l).take 12 = headB k n := by
  unfold pageB; exact List.take_left' (headB_len k n)
theorem pageB_drop12 (k n : Nat) (l : List UInt8) : (pageB k n l).drop 12 = wordB 4 (sumC (headB k n ++ zsB 4 ++ padB l)) ++ padB l := by
  unfold pageB; exact List.drop_left' (headB_len k n)
theorem pageB_drop (k n : Nat) (l : List UInt8) : (pageB k n l).drop 16 = padB l := by
  have : (pageB k n l).drop 16 = ((pageB k n l).drop 12).drop 4 := by rw [List.drop_drop]
  rw [this, pageB_drop12]
  exact List.drop_left' (wordB_len 4 _)
theorem pageB_sum (k n : Nat) (l : List UInt8) : sumB (pageB k n l) = sumC (headB k n ++ zsB 4 ++ padB l) := by
  unfold sumB; rw [pageB_take, pageB_drop]
theorem pageB_kind (k n : Nat) (l : List UInt8) (h : k < 256) : ((pageB k n l).getD 3 0).toNat = k := by
  unfold pageB headB
  simp
  omega
theorem wordN_four {n : Nat} (h : n < 4294967296) : wordN (wordB 4 n) = n := by rw [wordN_word]; omega
theorem wordB_four {l : List UInt8} (h : l.length = 4) : wordB 4 (wordN l) = l := by
  match l, h with
  | [a, b, c, d], _ =>
    have ha := a.toNat_lt
    have hb := b.toNat_lt
    have hc := c.toNat_lt
    have hd := d.toNat_lt
    simp only [wordN, wordB, List.cons.injEq, and_true]
    refine ⟨?_, ?_, ?_, ?_⟩ <;> apply UInt8.toNat_inj.1 <;> rw [u8n] <;> omega
theorem wordB_inj4 {a b : Nat} (ha : a < 4294967296) (hb : b < 4294967296) (h : wordB 4 a = wordB 4 b) : a = b := by
  rw [← wordN_four ha, ← wordN_four hb, h]
theorem pageB_num (k n : Nat) (l : List UInt8) (h : n < 4294967296) : numW (pageB k n l) = n := by
  have e : (pageB k n l).drop 4 = wordB 4 n ++ (zsB 4 ++ (wordB 4 (sumC (headB k n ++ zsB 4 ++ padB l)) ++ padB l)) := by
    unfold pageB headB
    simp
  unfold numW
  rw [e, List.take_left' (wordB_len 4 n), wordN_four h]
theorem pageB_ok {k n : Nat} {l : List UInt8} (h1 : 1 ≤ k) (h7 : k ≤ 7) (hl : l.length ≤ 4080) : okB (pageB k n l) := by
  refine ⟨⟨pageB_len hl, ?_⟩, by rw [pageB_kind k n l (by omega)]; omega, ?_, ?_⟩
  · unfold pageB headB; simp
  · have e : (pageB k n l).drop 8 = zsB 4 ++ (wordB 4 (sumC (headB k n ++ zsB 4 ++ padB l)) ++ padB l) := by
      have h8 : (wordB 4 n).length = 4 := wordB_len 4 n
      have : pageB k n l = ([84, 77, 1, UInt8.ofNat k] ++ wordB 4 n) ++ (zsB 4 ++ (wordB 4 (sumC (headB k n ++ zsB 4 ++ padB l)) ++ padB l)) := by
        unfold pageB headB; simp only [List.append_assoc]
      rw [this]
      exact List.drop_left' (by simp [wordB_len])
    rw [e]
    exact List.take_left' (zsB_len 4)
  · rw [pageB_drop12, pageB_sum]
    exact List.take_left' (wordB_len 4 _)
theorem getDb {l : List UInt8} {i : Nat} (h : i < l.length) : l.getD i 0 = l[i] := by simp [h]
theorem drop_takeb (l : List UInt8) (a b : Nat) : l.drop a = (l.drop a).take b ++ l.drop (a + b) := by
  rw [← List.drop_drop, List.take_append_drop]
theorem drop_one {l : List UInt8} {i : Nat} (h : i < l.length) : l.drop i = l.getD i 0 :: l.drop (i + 1) := by
  rw [getDb h]; exact List.drop_eq_getElem_cons h
theorem page_cut {l : List UInt8} (h : l.length = 4096) : l = l.take 3 ++ (l.getD 3 0 :: ((l.drop 4).take 4 ++ ((l.drop 8).take 4 ++ ((l.drop 12).take 4 ++ l.drop 16)))) := by
  have e1 := drop_takeb l 12 4
  have e2 := drop_takeb l 8 4
  have e3 := drop_takeb l 4 4
  have e4 := drop_one (l := l) (i := 3) (by omega)
  rw [← e1, ← e2, ← e3, ← e4, List.take_append_drop]
theorem take12 {l : List UInt8} (h : l.length = 4096) : l.take 12 = l.take 3 ++ (l.getD 3 0 :: ((l.drop 4).take 4 ++ (l.drop 8).take 4)) := by
  have hl : (l.take 3 ++ (l.getD 3 0 :: ((l.drop 4).take 4 ++ (l.drop 8).take 4))).length = 12 := by simp; omega
  have e : l = (l.take 3 ++ (l.getD 3 0 :: ((l.drop 4).take 4 ++ (l.drop 8).take 4))) ++ ((l.drop 12).take 4 ++ l.drop 16) := by
    conv => lhs; rw [page_cut h]
    simp only [List.append_assoc, List.cons_append]
  conv => lhs; rw [e]
  exact List.take_left' hl
theorem ofNat_toNat (x : UInt8) : UInt8.ofNat x.toNat = x := by simp
theorem okB_page {l : List UInt8} (h : okB l) : pageB (l.getD 3 0).toNat (numW l) (l.drop 16) = l := by
  obtain ⟨⟨hl, h3⟩, hk, hz, hs⟩ := h
  have hd : (l.drop 16).length = 4080 := by simp; omega
  have h4 : ((l.drop 4).take 4).length = 4 := by simp; omega
  have hh : headB (l.getD 3 0).toNat (numW l) = l.take 12 := by
    rw [take12 hl, h3, hz]
    unfold headB numW
    rw [wordB_four h4, ofNat_toNat]
    rfl
  unfold pageB
  rw [hh, padB_full hd]
  have : sumC (l.take 12 ++ zsB 4 ++ l.drop 16) = sumB l := rfl
  rw [this, ← hs, ← drop_takeb, List.take_append_drop]
/-- The document's own way: bytes are a page's if they are those of the page that they tell. -/
theorem okB_iff (l : List UInt8) : okB l ↔ l.length = 4096 ∧ (1 ≤ (l.getD 3 0).toNat ∧ (l.getD 3 0).toNat ≤ 7) ∧ pageB (l.getD 3 0).toNat (numW l) (l.drop 16) = l := by
  constructor
  · intro h
    exact ⟨h.1.1, h.2.1, okB_page h⟩
  · rintro ⟨hl, ⟨h1, h7⟩, he⟩
    have hd : (l.drop 16).length ≤ 4080 := by simp; omega
    have := pageB_ok (n := numW l) h1 h7 hd
    rw [he] at this
    exact this
/-- A byte changed changes the sum. -/
theorem sumC_set {l : List UInt8} {i : Nat} (hi : i < l.length) {y : UInt8} (h : sumC (l.set i y) = sumC l) : y = l[i] := by
  have e1 : l.set i y = l.take i ++ [y] ++ l.drop (i + 1) := by rw [List.set_eq_take_append_cons_drop, if_pos hi]; simp
  have e2 : l = l.take i ++ [l[i]] ++ l.drop (i + 1) := by simp
  rw [e1] at h
  conv at h => rhs; rw [e2]
  have := sumC_four (l := [y]) (m := [l[i]]) rfl (by simp) h
  injection this
theorem okB_turned {l : List UInt8} (h : okB l) {i : Nat} (hi : i < 4096) {y : UInt8} (hy : y ≠ l.getD i 0) : ¬ okB (l.set i y) := by
  intro h'
  obtain ⟨⟨hl, _⟩, _, _, hs⟩ := h
  obtain ⟨_, _, _, hs'⟩ := h'
  have hil : i < l.length := by omega
  rw [getDb hil] at hy
  by_cases hc : 12 ≤ i ∧ i < 16
  · have e1 : sumB (l.set i y) = sumB l := by
      unfold sumB
      rw [List.take_set_of_le (by omega), List.drop_set_of_lt (by omega)]
    rw [e1, ← hs, List.drop_set, if_neg (by omega)] at hs'
    have h1 : (((l.drop 12).set (i - 12) y).take 4)[i - 12]? = ((l.drop 12).take 4)[i - 12]? := by rw [hs']
    rw [List.getElem?_take_of_lt (by omega), List.getElem?_take_of_lt (by omega), List.getElem?_set_self (by simp; omega), List.getElem?_drop] at h1
    rw [show 12 + (i - 12) = i by omega, List.getElem?_eq_getElem hil] at h1
    exact hy (Option.some.inj h1)
  · have e0 : ((l.set i y).drop 12).take 4 = (l.drop 12).take 4 := by
      by_cases h12 : i < 12
      · rw [List.drop_set_of_lt h12]
      · rw [List.drop_set, if_neg h12, List.take_set_of_le (by omega)]
    rw [e0, hs] at hs'
    have e2 := wordB_inj4 (sumB_lt _) (sumB_lt _) hs'
    have hlen : i < (l.take 12 ++ zsB 4 ++ l.drop 16).length := by simp [zsB_len]; omega
    have e3 : (l.set i y).take 12 ++ zsB 4 ++ (l.set i y).drop 16 = (l.take 12 ++ zsB 4 ++ l.drop 16).set i y := by
      have ht : (l.take 12).length = 12 := by simp; omega
      have ht4 : (l.take 12 ++ zsB 4).length = 16 := by rw [List.length_append, ht, zsB_len]
      by_cases h12 : i < 12
      · rw [List.drop_set_of_lt (by omega), List.set_append_left _ _ (by rw [ht4]; omega), List.set_append_left _ _ (by rw [ht]; omega), List.take_set]
      · rw [List.take_set_of_le (by omega), List.drop_set, if_neg (by omega), List.set_append_right _ _ (by rw [ht4]; omega), ht4]
    have e4 : (l.take 12 ++ zsB 4 ++ l.drop 16)[i] = l[i] := by
      have h5 : (l.take 12 ++ zsB 4 ++ l.drop 16)[i]? = l[i]? := by
        have ht : (l.take 12).length = 12 := by simp; omega
        have ht4 : (l.take 12 ++ zsB 4).length = 16 := by rw [List.length_append, ht, zsB_len]
        by_cases h12 : i < 12
        · rw [List.getElem?_append_left (by rw [ht4]; omega), List.getElem?_append_left (by rw [ht]; omega), List.getElem?_take_of_lt h12]
        · rw [List.getElem?_append_right (by rw [ht4]; omega), ht4, List.getElem?_drop]
          congr 1
          omega
      rw [List.getElem?_eq_getElem hlen, List.getElem?_eq_getElem hil] at h5
      exact Option.some.inj h5
    unfold sumB at e2
    rw [e3] at e2
    exact hy ((sumC_set hlen e2.symm).trans e4)
/-- Pages of unlike parts have unlike bytes. -/
theorem pageB_iff {k n k' n' : Nat} {l l' : List UInt8} (hk : k < 256) (hk' : k' < 256) (hn : n < 4294967296) (hn' : n' < 4294967296) (hl : l.length ≤ 4080) (hl' : l'.length ≤ 4080) :
    pageB k n l = pageB k' n' l' ↔ k = k' ∧ n = n' ∧ trimR l = trimR l' := by
  constructor
  · intro h
    refine ⟨?_, ?_, ?_⟩
    · rw [← pageB_kind k n l hk, ← pageB_kind k' n' l' hk', h]
    · rw [← pageB_num k n l hn, ← pageB_num k' n' l' hn', h]
    · rw [← padB_iff hl hl', ← pageB_drop k n l, ← pageB_drop k' n' l', h]
  · rintro ⟨rfl, rfl, h⟩
    unfold pageB
    rw [(padB_iff hl hl').2 h]
end Go.Proofs.YtknagdbhhfelnaaDoor

/-
  Package page's small functions by their contracts: bytes.Equal, bytes.TrimRight of noughts, isKind, trimmed. Conditions: the bytes are fewer than 2^46.
-/
namespace Go.Proofs.YtknagdbhhfelnaaDoor
open Go.RowKit
set_option maxRecDepth 100000

theorem isKind_any (k : Int) (w : World) : Calls Tryd.prog 46 #[.int .i64 k] w fun e w' => e = .returned (.bool (decide (1 ≤ k ∧ k ≤ 7))) ∧ w = w' := by
  by_cases h1 : 1 ≤ k
  · by_cases h7 : k ≤ 7
    · have hd : decide (1 ≤ k ∧ k ≤ 7) = true := by simp [h1, h7]
      rw [hd]
      go_enter Tryd.func46, Tryd.ntmps46
      go_wp2_with fail
      go_ret
      exact ⟨rfl, rfl⟩
    · have hd : decide (1 ≤ k ∧ k ≤ 7) = false := by simp [h7]
      rw [hd]
      go_enter Tryd.func46, Tryd.ntmps46
      go_wp2_with fail
      go_ret
      exact ⟨rfl, rfl⟩
  · have hd : decide (1 ≤ k ∧ k ≤ 7) = false := by simp [h1]
    rw [hd]
    go_enter Tryd.func46, Tryd.ntmps46
    go_wp2_with fail
    go_ret
    exact ⟨rfl, rfl⟩
/-- What a call that hands a part of its bytes back leaves. -/
def Part (w : World) (l : List UInt8) (e : Ending) (w' : World) : Prop := ∃ v, e = .returned v ∧ Byt w v l ∧ w = w'
def lenV : Value → Nat
  | .slice _ n _ => n
  | _ => 0
def TrimRel (w : World) (l : List UInt8) (s : Value) : Prop := ∃ (A : Option Addr) (k c : Nat), s = .slice A k c ∧ k ≤ l.length ∧ Byt w s (l.take k) ∧ k ≤ c ∧ c ≤ 9223372036854775807 ∧ trimR (l.take k) = trimR l
set_option maxRecDepth 100000 in
set_option maxHeartbeats 1000000 in
theorem trimByte_any (w : World) (v : Value) (l : List UInt8) (hv : Byt w v l) :
    Calls Tryd.prog 80 #[v, .int .u8 0] w (Part w (trimR l)) := by
  obtain ⟨A, n, c, rfl, N, hnc, hcm⟩ := hv.form
  have HV := Lib.hid hv
  clear hv
  go_enter Tryd.func80, Tryd.ntmps80
  go_wp2_with fail
  go_loop [0] (fun s => TrimRel w l s) (fun s => lenV s)
  case atStart => exact ⟨A, n, c, rfl, by have := N.out; omega, by have := N.out; rw [List.take_of_length_le (by omega)]; exact HV.out, hnc, hcm, by have := N.out; rw [List.take_of_length_le (by omega)]⟩
  case round =>
    obtain ⟨A1, k, c1, rfl, hk, hb, hkc, hcm1, ht⟩ := hrel
    have HB := Lib.hid hb
    have HT := Lib.hid ht
    clear hb ht
    cases k with
    | zero =>
      go_wp2_with fail
      go_ret
      refine ⟨_, rfl, ?_, rfl⟩
      have h1 := HT.out
      rw [List.take_zero] at h1
      rw [← h1]
      exact HB.out
    | succ j =>
      have hkl : j < (l.take (j + 1)).length := by rw [List.length_take]; omega
      obtain ⟨b, off, rfl, hb, hc⟩ := HB.out.at (k := j) hkl
      have hcell := hc j hkl
      have hsn : l.take (j + 1) = l.take j ++ [l[j]] := by rw [List.take_succ_eq_append_getElem (by omega)]
      rw [List.getElem_take] at hcell
      have HS := Lib.hid hsn
      have HU := Lib.hid (HB.out.upto (k := j) (by omega))
      clear hc hb hsn
      generalize l[j]'(by omega) = x at *
      by_cases hx : x = 0
      · subst hx
        have hz : ((0 : UInt8).toNat : Int) = 0 := rfl
        rw [hz] at hcell
        go_wp2_with fail
        go_round
        case rel => 
          refine ⟨_, j, c1, rfl, by omega, ?_, by omega, hcm1, ?_⟩
          · have := HU.out
            rw [List.take_take, Nat.min_eq_left (by omega)] at this
            exact this
          · rw [← HT.out, HS.out, trimR_zero]
        case measure => simp [lenV]
      · have hne : ((x.toNat : Int) == 0) = false := by
          have : x.toNat ≠ 0 := fun e => hx (UInt8.toNat_inj.1 e)
          simp; exact this
        go_wp2_with fail
        go_ret
        refine ⟨_, rfl, ?_, rfl⟩
        rw [← HT.out, HS.out, trimR_last _ _ hx, ← HS.out]
        exact HB.out
set_option maxRecDepth 100000 in
set_option maxHeartbeats 1000000 in
theorem trim_any (w : World) (v : Value) (l : List UInt8) (hv : Byt w v l) :
    Calls Tryd.prog 69 #[v, .string ⟨#[0]⟩] w (Part w (trimR l)) := by
  obtain ⟨A, n, c, rfl, N, hnc, hcm⟩ := hv.form
  have HV := Lib.hid hv
  clear hv
  by_cases h0 : n = 0
  · subst h0
    go_enter Tryd.func69, Tryd.ntmps69
    go_wp2_with fail
    go_ret
    refine ⟨_, rfl, ?_, rfl⟩
    obtain rfl : l = [] := List.eq_nil_of_length_eq_zero N.out.symm
    exact HV.out
  · have hn : ((n : Int) == 0) = false := by simp; exact h0
    clear h0
    go_enter Tryd.func69, Tryd.ntmps69
    go_wp2_with fail
    refine (trimByte_any w _ l HV.out).mono ?_
    rintro e w1 ⟨v1, rfl, hb1, rfl⟩
    go_wp2_with fail
    go_ret
    exact ⟨_, rfl, hb1, rfl⟩
theorem trimmed_any (w : World) (v : Value) (l : List UInt8) (hv : Byt w v l) :
    Calls Tryd.prog 92 #[v] w (Part w (trimR l)) := by
  have HV := Lib.hid hv
  clear hv
  go_enter Tryd.func92, Tryd.ntmps92
  go_wp2_with fail
  refine (trim_any w _ l HV.out).mono ?_
  rintro e w1 ⟨v1, rfl, hb1, rfl⟩
  go_wp2_with fail
  go_ret
  exact ⟨_, rfl, hb1, rfl⟩
end Go.Proofs.YtknagdbhhfelnaaDoor

/-
  Package page: sum, Kind by their contracts. Conditions: none.
-/
namespace Go.Proofs.YtknagdbhhfelnaaDoor
open Go.RowKit
set_option maxRecDepth 100000

theorem own_cell {w : World} {B g n c : Nat} {l : List UInt8} (h : Own w B 5 (.slice (some ⟨g, 0, none⟩) n c) l) {j : Nat} (hj : j < l.length) : w.cell? ⟨g, j, none⟩ = some (.int .u8 ((l.getD j 0).toNat : Int)) := by
  have := World.ownsRow.cells h (g := g) rfl j (.int .u8 (l[j].toNat : Int)) (by simp [byc, hj])
  rw [plainAdd, Nat.zero_add] at this
  rw [this, List.getD_eq_getElem?_getD, List.getElem?_eq_getElem hj]
  rfl
theorem own_set {w : World} {B g n c : Nat} {l : List UInt8} (h : Own w B 5 (.slice (some ⟨g, 0, none⟩) n c) l) (hl : l.length = n) (j : Nat) (x : UInt8) :
    Own (w.setCell ⟨g, j, none⟩ (.int .u8 (x.toNat : Int))) B 5 (.slice (some ⟨g, 0, none⟩) n c) (l.set j x) := by
  unfold Own at h ⊢
  rw [List.length_set]
  rw [hl] at h ⊢
  have := World.ownsRow.stored h j (.int .u8 (x.toNat : Int))
  have e : byc (l.set j x) = (byc l).set j (.int .u8 (x.toNat : Int)) := by simp [byc, List.map_set]
  rw [e]
  exact this.1
/-- 'uint64(x)' of 32 bits. -/
theorem conv64 (u : World) (sm : Nat) (h : sm < 4294967296) (o : Oper) (x : Operand) {a : Act} (ho : o.op = .convert 44 84 x) (hx : a.eval x = .int .u32 (sm : Int)) : (execOp a.eval o).run Tryd.prog u = .ok (.value (.int .u64 (sm : Int))) u := by
  unfold execOp
  rw [ho]
  generalize a.eval = ρ at *
  go_simp
  rw [IntKind.wrap_u64]
  omega
theorem Byts.three {w : World} {a b c : Value} {l m n : List UInt8} (h1 : Byt w a l) (h2 : Byt w b m) (h3 : Byt w c n) : Byts w [a, b, c] [l, m, n] :=
  ((((Byts.nil w).snoc h1).snoc h2).snoc h3)
/-- 's[a:b]' with constant bounds. -/
theorem Byt.midrun {w : World} {A : Option Addr} {n c : Nat} {l : List UInt8} (h : Byt w (.slice A n c) l) (a b : Nat) (hab : a ≤ b) (hb : b ≤ n) :
    ∃ A1 n1 c1, (∀ W, (Instr.slice 27 (.slice A n c) (some (.int .i64 (a : Int))) (some (.int .i64 (b : Int))) none).run Tryd.prog W = .ok (.slice A1 n1 c1) W) ∧ Byt w (.slice A1 n1 c1) ((l.drop a).take (b - a)) ∧ Hid (n1 = b - a) ∧ n1 ≤ c1 ∧ c1 ≤ 9223372036854775807 := by
  have h1 := h.cut (k := a) (by omega)
  have h2 := h1.upto (k := b - a) (by omega)
  obtain ⟨A', c', hv, g1, g2, _⟩ := id h1
  injection hv with e1 e2 e3
  have hln : l.length = n ∧ n ≤ c := by obtain ⟨_, _, hv, h9, _⟩ := h; injection hv with _ e e9; subst e9; exact ⟨e.symm, by omega⟩
  refine ⟨_, b - a, _, fun W => ?_, h2, rfl, ?_, ?_⟩
  · rw [run_slice_lh W 27 _ n c elemByte .i64 .i64 _ _ (by omega) (by omega) (by omega), sizeByte]
    simp [Result.andThen, sliced]
  · rw [List.length_drop] at g1; omega
  · unfold maxLen at g2; omega

set_option maxRecDepth 100000 in
set_option maxHeartbeats 2000000 in
theorem pgsum_any (w : World) (v : Value) (l : List UInt8) (hv : Byt w v l) (hl : l.length = 4096) :
    Calls Tryd.prog 47 #[v] w (Made w (wordB 4 (sumB l))) := by
  obtain ⟨i0, hi0, hz0, hz1, hz2⟩ := info_parts uinfo
  obtain ⟨A, n, c, rfl, N, hnc, hcm⟩ := hv.form
  obtain rfl : n = 4096 := N.out.trans hl
  obtain ⟨A2, n2, c2, hcut, hby2, N2, _, _⟩ := hv.cutrun 27 elemByte sizeByte 16 (by omega) .i64
  have hcut' : ∀ W, (Instr.slice 27 (.slice A 4096 c) (some (.int .i64 16)) none none).run Tryd.prog W = .ok (.slice A2 n2 c2) W := hcut
  obtain ⟨A1, n1, c1, hupr, hup, N1, _, _⟩ := hv.uptorun 27 elemByte sizeByte 12 (by omega) .i64
  have hup' : ∀ W, (Instr.slice 27 (.slice A 4096 c) none (some (.int .i64 12)) none).run Tryd.prog W = .ok (.slice A1 n1 c1) W := hupr
  have HV := Lib.hid hv
  have HU0 := Lib.hid hup
  have HC0 := Lib.hid hby2
  have HLL := Lib.hid hl
  clear hv hcut hup hupr hby2 N
  go_enter Tryd.func47, Tryd.ntmps47
  go_wp2_with (at_make; refine wpList_make_full _ rfl _ _ 27 rfl w.heap.size 5 i0 _ 1 Tryd.underlying27 hi0 hz0 hz1 _ _ _ _ 4 rfl rfl rfl rfl (by rw [hz2]; omega) (by simp only [maxLen]; omega) (Nat.le_refl _) ?_; intro w1 hown1 hg1)
  have hb1 := below_none hg1
  have HO : Hid (Own w1.drew w.heap.size 5 (.slice (some ⟨w.heap.size, 0, none⟩) 4 4) (zsB 4)) := own_zeros hown1
  have HB : Hid (Below w.heap.size w w1.drew) := hb1.drew
  have HU : Hid (Byt w1.drew (.slice A1 n1 c1) (l.take 12)) := HU0.out.below hb1.drew
  have HC : Hid (Byt w1.drew (.slice A2 n2 c2) (l.drop 16)) := HC0.out.below hb1.drew
  clear hown1 hg1 hb1
  refine wp_region_R (R := fun x y => Below x.heap.size x y) (by kernel_rfl) (fun _ => Below.refl _ _) (fun h k => h.trans (k.mono h.size)) (by kernel_rfl) (fun d v c a w h => by cases d <;> exact h)
    [(0, false), (1, false), (2, false), (3, false), (4, false), (5, true), (6, true), (7, false), (8, true), (9, false)] rfl (by kernel_rfl) (by kernel_rfl) ?_
  simp only [sel, List.getElem?_toArray, List.getElem?_cons_succ, List.getElem?_cons_zero]
  generalize w1.drew = wd at *
  iterate 5 (refine sch_take ?_ rfl ?_ ?_; rotate_left; (focus (intro u hu; go_simp <;> rfl)); simp only [Act.put, List.setIfInBounds_toArray, List.set_cons_zero, List.set_cons_succ])
  refine sch_call rfl ?_
  intro K hK
  go_simp
  refine hK _ _ (below_new _ _) ?_
  clear hK K
  have hrow := Rowz.litF wd [.slice A1 n1 c1, .slice (some ⟨w.heap.size, 0, none⟩) 4 4, .slice A2 n2 c2] 27 (0, 0) (by simp [maxLen])
  have hbyt := Byts.three ((HU.out).alloc (.cells #[.slice A1 n1 c1, .slice (some ⟨w.heap.size, 0, none⟩) 4 4, .slice A2 n2 c2] 27)) (HO.out.byt.alloc _) (HC.out.alloc _)
  refine sch_call rfl ?_
  intro K hK
  go_simp
  have hcp := crcparts_any _ _ _ _ hrow hbyt (by
    intro x hx
    have hl := HLL.out
    simp at hx
    rcases hx with rfl | rfl | rfl
    · rw [List.length_take]; omega
    · rw [zsB_len]; omega
    · rw [List.length_drop]; omega)
  have hsum : sumC [l.take 12, zsB 4, l.drop 16].flatten = sumB l := by simp [sumB]
  rw [hsum] at hcp
  have HLT := Lib.hid (sumB_lt l)
  clear hrow hbyt hsum
  generalize sumB l = sm at *
  have hlt := HLT.out
  refine hcp.mono ?_
  clear hcp
  rintro e w2 ⟨rfl, hb2⟩
  go_wp2_with fail
  refine hK _ _ hb2 ?_
  clear hK K
  have HB2 := Lib.hid ((HB.out.trans ((below_new wd _).mono HB.out.size)).trans (hb2.mono (by have := HB.out.size; simp; omega)))
  clear hb2
  refine sch_take (.int .u64 (sm : Int)) rfl (fun u _ => conv64 u sm hlt _ _ rfl rfl) ?_
  simp only [Act.put, List.setIfInBounds_toArray, List.set_cons_zero, List.set_cons_succ]
  refine sch_call rfl ?_
  intro K hK
  go_simp
  refine (word_is _ _ [] sm 4 (Byt.nil _) (by omega) (by omega) (by simp)).mono ?_
  rintro e w3 ⟨v3, rfl, hown3, hb3⟩
  go_wp2_with fail
  refine hK _ _ hb3 ?_
  clear hK K
  have HO3 := Lib.hid hown3
  have HB3 := Lib.hid (HB2.out.trans (hb3.mono HB2.out.size))
  have HS3 := Lib.hid HB2.out.size
  clear hown3 hb3 hlt
  (refine sch_take ?_ rfl ?_ ?_; rotate_left; (focus (intro u hu; go_simp <;> rfl)); simp only [Act.put, List.setIfInBounds_toArray, List.set_cons_zero, List.set_cons_succ])
  refine sch_nil ?_
  go_wp2_with fail
  go_ret
  exact made_mk (HO3.out.lower (HS3.out)) HB3.out

theorem trim_zs {z : List UInt8} (h : z.length = 4) : (trimR z).length = 0 ↔ z = zsB 4 := by
  constructor
  · intro e
    have e' := List.eq_nil_of_length_eq_zero e
    have := trimR_is z
    rw [e', h] at this
    exact this
  · rintro rfl
    have := trimR_zeros [] 4
    rw [List.nil_append] at this
    show (trimR (List.replicate 4 0)).length = 0
    rw [this]; rfl
/-- What a call that tells a number, and may make memory, leaves. -/
def IntB (w : World) (n : Nat) (e : Ending) (w' : World) : Prop := e = .returned (.int .i64 (n : Int)) ∧ Below w.heap.size w w'
theorem kind_len (w : World) (v : Value) (l : List UInt8) (hv : Byt w v l) (hl : l.length ≠ 4096) : Calls Tryd.prog 77 #[v] w (IntB w (kindB l)) := by
  have HR : Hid (kindB l = 0) := (kindB_zero l).2 (fun h => hl h.1.1)
  obtain ⟨A, n, c, rfl, N, hnc, hcm⟩ := hv.form
  have hn : ((n : Int) != 4096) = true := by have := N.out; simp only [bne, beq_eq_false_iff_ne, Bool.not_eq_true', ne_eq]; omega
  clear hv hl
  go_enter Tryd.func77, Tryd.ntmps77
  go_wp2_with fail
  go_ret
  rw [HR.out]
  exact ⟨rfl, Below.refl _ _⟩
theorem kind_mark (w : World) (v : Value) (l : List UInt8) (hv : Byt w v l) (hl : l.length = 4096) (hm : l.take 3 ≠ [84, 77, 1]) : Calls Tryd.prog 77 #[v] w (IntB w (kindB l)) := by
  have HR : Hid (kindB l = 0) := (kindB_zero l).2 (fun h => hm h.1.2)
  obtain ⟨A, n, c, rfl, N, hnc, hcm⟩ := hv.form
  obtain rfl : n = 4096 := N.out.trans hl
  obtain ⟨A1, n1, c1, r1, b1, N1, _, _⟩ := hv.midrun 0 3 (by omega) (by omega)
  have r1' : ∀ W, (Instr.slice 27 (.slice A 4096 c) (some (.int .i64 0)) (some (.int .i64 3)) none).run Tryd.prog W = .ok (.slice A1 n1 c1) W := r1
  rw [List.drop_zero] at b1
  have T1 := text_of b1
  have E := bytes_lit (l.take 3) [84, 77, 1]
  rw [decide_eq_false hm] at E
  have e3 : (l.take (3 - 0)) = l.take 3 := rfl
  rw [e3] at T1
  generalize (⟨(l.take 3).toArray⟩ : ByteArray) = s1 at *
  clear hv hl hm r1 b1 e3
  go_enter Tryd.func77, Tryd.ntmps77
  go_wp2_with fail
  go_ret
  rw [HR.out]
  exact ⟨rfl, Below.refl _ _⟩

set_option maxRecDepth 100000 in
set_option maxHeartbeats 4000000 in
theorem kind_rest (w : World) (v : Value) (l : List UInt8) (hv : Byt w v l) (hl : l.length = 4096) (hm : l.take 3 = [84, 77, 1]) : Calls Tryd.prog 77 #[v] w (IntB w (kindB l)) := by
  obtain ⟨A, n, c, rfl, N, hnc, hcm⟩ := hv.form
  obtain rfl : n = 4096 := N.out.trans hl
  obtain ⟨A1, n1, c1, r1, b1, N1, _, _⟩ := hv.midrun 0 3 (by omega) (by omega)
  have r1' : ∀ W, (Instr.slice 27 (.slice A 4096 c) (some (.int .i64 0)) (some (.int .i64 3)) none).run Tryd.prog W = .ok (.slice A1 n1 c1) W := r1
  obtain ⟨A2, n2, c2, r2, b2, N2, _, _⟩ := hv.midrun 8 12 (by omega) (by omega)
  have r2' : ∀ W, (Instr.slice 27 (.slice A 4096 c) (some (.int .i64 8)) (some (.int .i64 12)) none).run Tryd.prog W = .ok (.slice A2 n2 c2) W := r2
  obtain ⟨A3, n3, c3, r3, b3, N3, _, _⟩ := hv.midrun 12 16 (by omega) (by omega)
  have r3' : ∀ W, (Instr.slice 27 (.slice A 4096 c) (some (.int .i64 12)) (some (.int .i64 16)) none).run Tryd.prog W = .ok (.slice A3 n3 c3) W := r3
  rw [List.drop_zero] at b1
  have T1 := text_of b1
  have E := bytes_lit (l.take 3) [84, 77, 1]
  rw [decide_eq_true hm] at E
  have e3 : (l.take (3 - 0)) = l.take 3 := rfl
  rw [e3] at T1
  generalize (⟨(l.take 3).toArray⟩ : ByteArray) = s1 at *
  obtain ⟨b, off, rfl, hb, hc⟩ := hv.at (k := 3) (by omega)
  have hcell := hc 3 (by omega)
  have hk3 : l[3]'(by omega) = l.getD 3 0 := (getDb (by omega)).symm
  rw [hk3] at hcell
  have B2 : Hid (Byt w (.slice A2 n2 c2) ((l.drop 8).take 4)) := b2
  have B3 : Hid (Byt w.drew (.slice A3 n3 c3) ((l.drop 12).take 4)) := b3
  have HV := Lib.hid hv
  have HVd : Hid (Byt w.drew _ l) := hv
  have HLL := Lib.hid hl
  have HM := Lib.hid hm
  have hx : (l.getD 3 0).toNat < 256 := UInt8.toNat_lt _
  have HKB : Hid (kindB l = if okB l then (l.getD 3 0).toNat else 0) := rfl
  have HOK : Hid (okB l ↔ (1 ≤ (l.getD 3 0).toNat ∧ (l.getD 3 0).toNat ≤ 7) ∧ (l.drop 8).take 4 = zsB 4 ∧ (l.drop 12).take 4 = wordB 4 (sumB l)) := ⟨fun h => h.2, fun h => ⟨⟨hl, hm⟩, h⟩⟩
  have HZ : Hid ((trimR ((l.drop 8).take 4)).length = 0 ↔ (l.drop 8).take 4 = zsB 4) := trim_zs (by rw [List.length_take, List.length_drop]; omega)
  generalize (l.getD 3 0).toNat = x at *
  clear hv hm r1 b1 e3 r2 r3 b2 b3 hc hb hk3 N
  go_enter Tryd.func77, Tryd.ntmps77
  go_wp2_with fail
  refine (trimmed_any w _ _ B2.out).mono ?_
  rintro e w1 ⟨v1, rfl, hb1, rfl⟩
  obtain ⟨A4, n4, c4, rfl, N4, hnc4, hcm4⟩ := hb1.form
  clear hb1
  by_cases hk : 1 ≤ x ∧ x ≤ 7
  · have HK : Hid (decide ((1 : Int) ≤ (x : Int) ∧ (x : Int) ≤ 7) = true) := by rw [Hid]; simp; omega
    by_cases hz : n4 = 0
    · subst hz
      have HZ2 : Hid ((l.drop 8).take 4 = zsB 4) := HZ.out.1 N4.out.symm
      go_wp2_with fail
      refine wp_region_R (R := fun x y => Below x.heap.size x y) (by kernel_rfl) (fun _ => Below.refl _ _) (fun h k => h.trans (k.mono h.size)) (by kernel_rfl) (fun d v c a w h => by cases d <;> exact h)
        [(0, false), (1, true), (2, false), (3, false), (4, false), (5, false), (6, false), (7, false), (8, false), (9, false), (10, false), (11, true), (12, true), (13, false), (14, false)] rfl (by kernel_rfl) (by kernel_rfl) ?_
      simp only [sel, List.getElem?_toArray, List.getElem?_cons_succ, List.getElem?_cons_zero]
      have HBX : Hid (Below w.heap.size w w.drew) := (Below.refl _ _).drew
      have HBS : Hid (w.heap.size ≤ w.drew.heap.size) := Nat.le_refl _
      generalize w.drew = wd at *
      (refine sch_take ?_ rfl ?_ ?_; rotate_left; (focus (intro u hu; go_simp <;> rfl)); simp only [Act.put, List.setIfInBounds_toArray, List.set_cons_zero, List.set_cons_succ])
      refine sch_call rfl ?_
      intro K hK
      go_simp
      refine (isKind_any _ _).mono ?_
      rintro e w2 ⟨rfl, rfl⟩; rw [HK.out]
      go_wp2_with fail
      refine hK _ _ (Below.refl _ _) ?_
      clear hK K
      iterate 9 (refine sch_take ?_ rfl ?_ ?_; rotate_left; (focus (intro u hu; go_simp <;> rfl)); simp only [Act.put, List.setIfInBounds_toArray, List.set_cons_zero, List.set_cons_succ])
      refine sch_call rfl ?_
      intro K hK
      go_simp
      refine (pgsum_any _ _ l HVd.out HLL.out).mono ?_
      rintro e w3 ⟨v3, rfl, hown3, hb3⟩
      go_wp2_with fail
      refine hK _ _ hb3 ?_
      clear hK K
      have HB3 := Lib.hid (HBX.out.trans (hb3.mono HBS.out))
      have H33 := Lib.hid (B3.out.below hb3)
      have HV3 := Lib.hid hown3.byt
      obtain ⟨A5, n5, c5, rfl, N5, hnc5, hcm5⟩ := hown3.byt.form
      clear hown3 hb3
      refine sch_call rfl ?_
      intro K hK
      go_simp
      refine (equal_any _ _ _ _ _ H33.out HV3.out).mono ?_
      rintro e w4 ⟨rfl, rfl⟩; obtain ⟨bq, HE⟩ : ∃ bq, Hid (decide ((l.drop 12).take 4 = wordB 4 (sumB l)) = bq) := ⟨_, rfl⟩; rw [HE.out]
      go_wp2_with fail
      refine hK _ _ (Below.refl _ _) ?_
      clear hK K
      iterate 2 (refine sch_take ?_ rfl ?_ ?_; rotate_left; (focus (intro u hu; go_simp <;> rfl)); simp only [Act.put, List.setIfInBounds_toArray, List.set_cons_zero, List.set_cons_succ])
      refine sch_nil ?_
      cases bq
      · have HR : Hid (kindB l = 0) := by
          rw [Hid, HKB.out, if_neg]
          intro h
          exact of_decide_eq_false HE.out (HOK.out.1 h).2.2
        go_wp2_with fail
        go_ret
        rw [HR.out]
        exact ⟨rfl, HB3.out⟩
      · have HR : Hid (kindB l = x) := by
          rw [Hid, HKB.out, if_pos]
          exact HOK.out.2 ⟨hk, HZ2.out, of_decide_eq_true HE.out⟩
        go_wp2_with fail
        go_ret
        rw [HR.out]
        exact ⟨rfl, HB3.out⟩
    · have hz' : ((n4 : Int) == 0) = false := by simp; exact hz
      have HR : Hid (kindB l = 0) := by
        rw [Hid, HKB.out, if_neg]
        intro h
        exact hz (N4.out.trans (HZ.out.2 (HOK.out.1 h).2.1))
      go_wp2_with fail
      refine wp_region_R (R := fun x y => Below x.heap.size x y) (by kernel_rfl) (fun _ => Below.refl _ _) (fun h k => h.trans (k.mono h.size)) (by kernel_rfl) (fun d v c a w h => by cases d <;> exact h)
        [(0, false), (1, true), (2, false), (3, false), (4, false), (5, false), (6, false), (7, false), (8, false), (9, false), (10, false), (11, true), (12, true), (13, false), (14, false)] rfl (by kernel_rfl) (by kernel_rfl) ?_
      simp only [sel, List.getElem?_toArray, List.getElem?_cons_succ, List.getElem?_cons_zero]
      have HBX : Hid (Below w.heap.size w w.drew) := (Below.refl _ _).drew
      have HBS : Hid (w.heap.size ≤ w.drew.heap.size) := Nat.le_refl _
      generalize w.drew = wd at *
      (refine sch_take ?_ rfl ?_ ?_; rotate_left; (focus (intro u hu; go_simp <;> rfl)); simp only [Act.put, List.setIfInBounds_toArray, List.set_cons_zero, List.set_cons_succ])
      refine sch_call rfl ?_
      intro K hK
      go_simp
      refine (isKind_any _ _).mono ?_
      rintro e w2 ⟨rfl, rfl⟩; rw [HK.out]
      go_wp2_with fail
      refine hK _ _ (Below.refl _ _) ?_
      clear hK K
      iterate 6 (refine sch_take ?_ rfl ?_ ?_; rotate_left; (focus (intro u hu; go_simp <;> rfl)); simp only [Act.put, List.setIfInBounds_toArray, List.set_cons_zero, List.set_cons_succ])
      refine sch_idle rfl ?_
      simp only [Act.put, List.setIfInBounds_toArray, List.set_cons_zero, List.set_cons_succ]
      refine sch_idle rfl ?_
      simp only [Act.put, List.setIfInBounds_toArray, List.set_cons_zero, List.set_cons_succ]
      refine sch_idle rfl ?_
      simp only [Act.put, List.setIfInBounds_toArray, List.set_cons_zero, List.set_cons_succ]
      refine sch_idleC rfl ?_
      simp only [Act.put, List.setIfInBounds_toArray, List.set_cons_zero, List.set_cons_succ]
      refine sch_idleC rfl ?_
      simp only [Act.put, List.setIfInBounds_toArray, List.set_cons_zero, List.set_cons_succ]
      refine sch_idle rfl ?_
      simp only [Act.put, List.setIfInBounds_toArray, List.set_cons_zero, List.set_cons_succ]
      (refine sch_take ?_ rfl ?_ ?_; rotate_left; (focus (intro u hu; go_simp <;> rfl)); simp only [Act.put, List.setIfInBounds_toArray, List.set_cons_zero, List.set_cons_succ])
      refine sch_nil ?_
      go_wp2_with fail
      go_ret
      rw [HR.out]
      exact ⟨rfl, HBX.out⟩
  · have HK : Hid (decide ((1 : Int) ≤ (x : Int) ∧ (x : Int) ≤ 7) = false) := by rw [Hid]; simp; omega
    have HR : Hid (kindB l = 0) := by
      rw [Hid, HKB.out, if_neg]
      intro h
      exact hk (HOK.out.1 h).1
    have hz' : ∃ bz, ((n4 : Int) == 0) = bz := ⟨_, rfl⟩
    obtain ⟨bz, hz'⟩ := hz'
    go_wp2_with fail
    refine wp_region_R (R := fun x y => Below x.heap.size x y) (by kernel_rfl) (fun _ => Below.refl _ _) (fun h k => h.trans (k.mono h.size)) (by kernel_rfl) (fun d v c a w h => by cases d <;> exact h)
      [(0, false), (1, true), (2, false), (3, false), (4, false), (5, false), (6, false), (7, false), (8, false), (9, false), (10, false), (11, true), (12, true), (13, false), (14, false)] rfl (by kernel_rfl) (by kernel_rfl) ?_
    simp only [sel, List.getElem?_toArray, List.getElem?_cons_succ, List.getElem?_cons_zero]
    have HBX : Hid (Below w.heap.size w w.drew) := (Below.refl _ _).drew
    have HBS : Hid (w.heap.size ≤ w.drew.heap.size) := Nat.le_refl _
    generalize w.drew = wd at *
    (refine sch_take ?_ rfl ?_ ?_; rotate_left; (focus (intro u hu; go_simp <;> rfl)); simp only [Act.put, List.setIfInBounds_toArray, List.set_cons_zero, List.set_cons_succ])
    refine sch_call rfl ?_
    intro K hK
    go_simp
    refine (isKind_any _ _).mono ?_
    rintro e w2 ⟨rfl, rfl⟩; rw [HK.out]
    go_wp2_with fail
    refine hK _ _ (Below.refl _ _) ?_
    clear hK K
    iterate 2 (refine sch_take ?_ rfl ?_ ?_; rotate_left; (focus (intro u hu; go_simp <;> rfl)); simp only [Act.put, List.setIfInBounds_toArray, List.set_cons_zero, List.set_cons_succ])
    refine sch_idle rfl ?_
    simp only [Act.put, List.setIfInBounds_toArray, List.set_cons_zero, List.set_cons_succ]
    refine sch_idle rfl ?_
    simp only [Act.put, List.setIfInBounds_toArray, List.set_cons_zero, List.set_cons_succ]
    iterate 2 (refine sch_take ?_ rfl ?_ ?_; rotate_left; (focus (intro u hu; go_simp <;> rfl)); simp only [Act.put, List.setIfInBounds_toArray, List.set_cons_zero, List.set_cons_succ])
    refine sch_idle rfl ?_
    simp only [Act.put, List.setIfInBounds_toArray, List.set_cons_zero, List.set_cons_succ]
    refine sch_idle rfl ?_
    simp only [Act.put, List.setIfInBounds_toArray, List.set_cons_zero, List.set_cons_succ]
    refine sch_idle rfl ?_
    simp only [Act.put, List.setIfInBounds_toArray, List.set_cons_zero, List.set_cons_succ]
    refine sch_idleC rfl ?_
    simp only [Act.put, List.setIfInBounds_toArray, List.set_cons_zero, List.set_cons_succ]
    refine sch_idleC rfl ?_
    simp only [Act.put, List.setIfInBounds_toArray, List.set_cons_zero, List.set_cons_succ]
    refine sch_idle rfl ?_
    simp only [Act.put, List.setIfInBounds_toArray, List.set_cons_zero, List.set_cons_succ]
    (refine sch_take ?_ rfl ?_ ?_; rotate_left; (focus (intro u hu; go_simp <;> rfl)); simp only [Act.put, List.setIfInBounds_toArray, List.set_cons_zero, List.set_cons_succ])
    refine sch_nil ?_
    go_wp2_with fail
    go_ret
    rw [HR.out]
    exact ⟨rfl, HBX.out⟩
theorem kind_any (w : World) (v : Value) (l : List UInt8) (hv : Byt w v l) : Calls Tryd.prog 77 #[v] w (IntB w (kindB l)) := by
  by_cases hl : l.length = 4096
  · by_cases hm : l.take 3 = [84, 77, 1]
    · exact kind_rest w v l hv hl hm
    · exact kind_mark w v l hv hl hm
  · exact kind_len w v l hv hl
end Go.Proofs.YtknagdbhhfelnaaDoor

/-
  Package page: Bytes by its contract. Conditions: none.
-/
namespace Go.Proofs.YtknagdbhhfelnaaDoor
open Go.RowKit Go.Maps
set_option maxRecDepth 100000

section
variable {ops : Array Oper} {rest : List Oper} {o : Oper} {a : Act} {w : World} {K : Act → World → Prop} {Q : Exit → Act → World → Prop}
/-- A copy of bytes into a row of the call's own. -/
theorem wp_copyO (dst : Nat) (d s : Operand) (hdst : o.dst = some dst) (ho' : o.op = .call { callee := .builtin .copy, args := #[d, s], argTypes := #[27, 27] })
    (ib off n ic dLen dCap : Nat) (B l : List UInt8) (sv : Value) (hd : a.eval d = .slice (some ⟨ib, off, none⟩) dLen dCap) (hs' : a.eval s = sv)
    (ho : Own w 0 5 (.slice (some ⟨ib, 0, none⟩) n ic) B) (hs : Byt w sv l) (hle : l.length ≤ dLen) (hfit : off + dLen ≤ n)
    (h : ∀ w', Own w' 0 5 (.slice (some ⟨ib, 0, none⟩) n ic) (splice B off l) → Trn (fun k => k = ib) w w' → w'.heap.size = w.heap.size → K (a.put (some dst) (goInt l.length)) w') : o.wp Tryd.prog a w K Q := by
  rw [← hdst] at h
  obtain ⟨w', hrun, g1, g2, g3⟩ := run_copyB (w := w) o.type ib off n ic dLen dCap B l sv ho hs hle hfit
  unfold Oper.wp
  simp [execOp, ho', resolve, invoke, builtin, hd, hs', hrun, Result.andThen]
  exact h w' g1 g2 g3
theorem byteCells_byc (l : List UInt8) : Lib.byteCells l = byc l := rfl
/-- A copy of a text into a row of the call's own. -/
theorem run_copyS (ib off n ic dLen dCap : Nat) (B l : List UInt8) 
    (ho : Own w 0 5 (.slice (some ⟨ib, 0, none⟩) n ic) B) (hle : l.length ≤ dLen) (hfit : off + dLen ≤ n) :
    ∃ w', (∀ ty, (Builtin.copy_ #[27, 9] ty #[.slice (some ⟨ib, off, none⟩) dLen dCap, .string ⟨l.toArray⟩]).run Tryd.prog w = .ok (goInt l.length) w') ∧ Own w' 0 5 (.slice (some ⟨ib, 0, none⟩) n ic) (splice B off l) ∧ Trn (fun k => k = ib) w w' := by
  have hsz : (Tryd.prog.info? 5).map (·.size) = some 1 := by kernel_rfl
  have hls : (⟨l.toArray⟩ : ByteArray).size = l.length := by simp [ByteArray.size]
  rcases ho.2 with ⟨e, _⟩ | ⟨g, cap, cur, e, hle0, hg, q1, q2, q3, q4⟩
  · cases e
  · injection e with e1 e2 e3
    injection e1 with e1
    injection e1 with e1
    subst e1 e3
    subst e2
    refine ⟨_, fun ty => ?_, ⟨?_, .inr ⟨ib, ic, (cur.toList.take off ++ byc l ++ cur.toList.drop (off + l.length)).toArray, ?_, hle0, setRow_heap w ib _ _ _ _ hg, ?_, q2, ?_, ?_⟩⟩, ⟨rfl, rfl, rfl, by simp [World.setRow], fun k hk hne => setRow_other w ib k _ hne⟩⟩
    · have hrun := Lib.run_copy_row_string (P := Tryd.prog) w 27 9 ty 5 ib off dLen dCap ⟨l.toArray⟩ cur 5 Tryd.underlying27 hsz hg (by rw [hls]; exact hle) (by rw [hls]; omega)
      rw [hls, byteCells_byc] at hrun
      exact hrun
    · rw [byc_len]; omega
    · rw [length_splice _ _ _ (by omega)]
    · rw [length_splice _ _ _ (by omega)]; exact q1
    · simp [byc_len]; omega
    · have e : (cur.toList.take off ++ byc l ++ cur.toList.drop (off + l.length)).toArray.toList = splice cur.toList off (byc l) := by
        simp [splice, byc_len]
      rw [e, length_splice _ _ _ (by omega), splice_take _ _ _ _ (by rw [byc_len]; omega) (by simp; omega), q4, byc_splice]
end
theorem Own.lift {w : World} {B g n c : Nat} {e : TypeId} {l : List UInt8} (h : Own w 0 e (.slice (some ⟨g, 0, none⟩) n c) l) (hB : B ≤ g) : Own w B e (.slice (some ⟨g, 0, none⟩) n c) l := by
  refine ⟨h.1, ?_⟩
  rcases h.2 with ⟨e, _⟩ | ⟨g', cap, cur, e, hb, r⟩
  · cases e
  · injection e with e1 e2 e3
    injection e1 with e1
    injection e1 with e1
    subst e1 e3
    exact .inr ⟨g, c, cur, by rw [e2], hB, r⟩

/-- A page by value. -/
def pageV (k n : Int) (vb : Value) : Array Value := #[.int .i64 k, .int .u32 n, vb]
/-- Block p holds this page. -/
def Box (w : World) (p : Nat) (k n : Int) (vb : Value) : Prop := w.heap[p]? = some (.cells (pageV k n vb) 48 (0, 0))
theorem Box.cells {w : World} {p : Nat} {k n : Int} {vb : Value} (h : Box w p k n vb) : w.cell? ⟨p, 0, none⟩ = some (.int .i64 k) ∧ w.cell? ⟨p, 1, none⟩ = some (.int .u32 n) ∧ w.cell? ⟨p, 2, none⟩ = some vb := by
  refine ⟨?_, ?_, ?_⟩ <;> rw [cell_of_row _ _ _ _ _ _ h] <;> rfl
theorem Box.lt {w : World} {p : Nat} {k n : Int} {vb : Value} (h : Box w p k n vb) : p < w.heap.size := (Array.getElem?_eq_some_iff.1 h).1
theorem Box.below {w w' : World} {p : Nat} {k n : Int} {vb : Value} (h : Box w p k n vb) (hb : Below w.heap.size w w') : Box w' p k n vb := (hb.block p h.lt).trans h
theorem Box.new (w : World) (k n : Int) (vb : Value) : Box (w.alloc (.cells (pageV k n vb) 48)) w.heap.size k n vb := heap_alloc_new w _

/-- Where a page's bytes are made: the page, and the row. -/
structure PgSt (w u : World) (p g : Nat) (k n : Int) (vb : Value) (B : List UInt8) : Prop where
  box : Box u p k n vb
  own : Own u 0 5 (.slice (some ⟨g, 0, none⟩) 4096 4096) B
  bel : Below w.heap.size w u
  hp : w.heap.size ≤ p
  hg : w.heap.size ≤ g
section
variable {w u u' : World} {p g : Nat} {k n : Int} {vb : Value} {B : List UInt8}
theorem PgSt.len (h : PgSt w u p g k n vb B) : B.length = 4096 := by
  rcases h.own.2 with ⟨e, _⟩ | ⟨g', cap, cur, e, _⟩
  · cases e
  · injection e with _ e _; exact e.symm
theorem PgSt.ne (h : PgSt w u p g k n vb B) : p ≠ g := by
  rintro rfl
  rcases h.own.2 with ⟨e, _⟩ | ⟨g', cap, cur, e, _, hg, _⟩
  · cases e
  · injection e with e1 _ _
    injection e1 with e1
    injection e1 with e1
    subst e1
    have := h.box
    unfold Box at this
    rw [this] at hg
    injection hg with hg
    injection hg with _ hg _
    cases hg
theorem PgSt.below (h : PgSt w u p g k n vb B) (hb : Below u.heap.size u u') : PgSt w u' p g k n vb B :=
  ⟨h.box.below hb, Own.keep h.own hb, h.bel.trans (hb.mono h.bel.size), h.hp, h.hg⟩
theorem PgSt.row (h : PgSt w u p g k n vb B) {B' : List UInt8} (ho : Own u' 0 5 (.slice (some ⟨g, 0, none⟩) 4096 4096) B') (ht : Trn (fun i => i = g) u u') : PgSt w u' p g k n vb B' :=
  ⟨(ht.block p h.box.lt h.ne).trans h.box, ho, h.bel.trans (ht.below h.bel.size (fun _ e => e ▸ h.hg)), h.hp, h.hg⟩
theorem PgSt.set (h : PgSt w u p g k n vb B) (j : Nat) (x : UInt8) : PgSt w (u.setCell ⟨g, j, none⟩ (.int .u8 (x.toNat : Int))) p g k n vb (B.set j x) :=
  h.row (own_set h.own h.len j x) ((Trn.refl _ _).setCell _ (fun _ => rfl))
end
theorem pgslice (g a b : Nat) (hab : a ≤ b) (hb : b ≤ 4096) (ha : a < 4096) : ∀ W, (Instr.slice 27 (.slice (some ⟨g, 0, none⟩) 4096 4096) (some (.int .i64 (a : Int))) (some (.int .i64 (b : Int))) none).run Tryd.prog W = .ok (.slice (some ⟨g, a, none⟩) (b - a) (4096 - a)) W := by
  intro W
  rw [run_slice_lh W 27 _ 4096 4096 elemByte .i64 .i64 _ _ (by omega) (by omega) (by omega), sizeByte]
  simp only [Result.andThen, sliced, Int.toNat_natCast]
  rw [if_neg (by omega)]
  simp [plainAdd]
/-! The row, step by step. -/
theorem splice_mid {p m q r : List UInt8} (h : m.length = q.length) {k : Nat} (hk : p.length = k) : splice (p ++ (m ++ r)) k q = p ++ (q ++ r) := by
  subst hk
  unfold splice
  rw [List.take_left, ← h, ← List.length_append, show p ++ (m ++ r) = (p ++ m) ++ r by simp, List.drop_left]
theorem zs_split (a b : Nat) : zsB (a + b) = zsB a ++ zsB b := by simp [zsB, List.replicate_append_replicate]
theorem row1 : splice (zsB 4096) 0 [84, 77, 1] = [84, 77, 1] ++ zsB 4093 := by
  rw [show (4096 : Nat) = 3 + 4093 from rfl, zs_split]
  have := splice_mid (p := []) (m := zsB 3) (q := [84, 77, 1]) (r := zsB 4093) rfl rfl
  simpa using this
theorem row2 (x : UInt8) : ([84, 77, 1] ++ zsB 4093).set 3 x = [84, 77, 1, x] ++ zsB 4092 := by
  rw [show (4093 : Nat) = 1 + 4092 from rfl, zs_split]
  rfl
theorem row3 (x : UInt8) (n : Nat) : splice ([84, 77, 1, x] ++ zsB 4092) 4 (wordB 4 n) = [84, 77, 1, x] ++ (wordB 4 n ++ zsB 4088) := by
  rw [show (4092 : Nat) = 4 + 4088 from rfl, zs_split]
  exact splice_mid (by rw [zsB_len, wordB_len]) rfl
theorem row4 (k n : Nat) {l : List UInt8} (hl : l.length ≤ 4080) : splice ([84, 77, 1, UInt8.ofNat k] ++ (wordB 4 n ++ zsB 4088)) 16 l = headB k n ++ (zsB 4 ++ padB l) := by
  have e : zsB 4088 = zsB 4 ++ (zsB 4 ++ (zsB l.length ++ zsB (4080 - l.length))) := by
    rw [← zs_split, ← zs_split, ← zs_split]; congr 1; omega
  have e2 : [84, 77, 1, UInt8.ofNat k] ++ (wordB 4 n ++ zsB 4088) = (headB k n ++ zsB 4) ++ (zsB l.length ++ zsB (4080 - l.length)) := by
    rw [e]; unfold headB; simp only [List.append_assoc]
  rw [e2, splice_mid (by rw [zsB_len]) (by rw [List.length_append, headB_len, zsB_len])]
  unfold padB
  simp only [List.append_assoc]
theorem row4_len (k n : Nat) {l : List UInt8} (hl : l.length ≤ 4080) : (headB k n ++ (zsB 4 ++ padB l)).length = 4096 := by
  rw [List.length_append, List.length_append, headB_len, zsB_len, padB_len hl]
theorem row4_sum (k n : Nat) {l : List UInt8} : sumB (headB k n ++ (zsB 4 ++ padB l)) = sumC (headB k n ++ zsB 4 ++ padB l) := by
  unfold sumB
  rw [List.take_left' (headB_len k n)]
  have : (headB k n ++ (zsB 4 ++ padB l)).drop 16 = padB l := by
    rw [← List.append_assoc]
    exact List.drop_left' (by rw [List.length_append, headB_len, zsB_len])
  rw [this]
theorem row5 (k n : Nat) {l : List UInt8} : splice (headB k n ++ (zsB 4 ++ padB l)) 12 (wordB 4 (sumB (headB k n ++ (zsB 4 ++ padB l)))) = pageB k n l := by
  rw [splice_mid (by rw [zsB_len, wordB_len]) (headB_len k n), row4_sum]
  rfl

/-- What Bytes answers of a page that may not be. -/
def Refused (w : World) (x : Nat) (e : Ending) (w' : World) : Prop := e = .returned (.tuple #[.slice none 0 0, .int .i64 (x : Int)]) ∧ Below w.heap.size w w'
/-- What a call that makes bytes, and no error, leaves. -/
def MadeE (w : World) (l : List UInt8) (e : Ending) (w' : World) : Prop := ∃ v, e = .returned (.tuple #[v, .int .i64 0]) ∧ Own w' w.heap.size 5 v l ∧ Below w.heap.size w w'
set_option maxHeartbeats 1000000 in
theorem bytes_bad (w : World) (k n : Int) (vb : Value) (l : List UInt8) (hv : Byt w vb l) (h : ¬ ((1 ≤ k ∧ k ≤ 7) ∧ l.length ≤ 4080)) :
    Calls Tryd.prog 26 #[.agg (pageV k n vb)] w (Refused w 2) := by
  obtain ⟨A, m, c, rfl, N, hnc, hcm⟩ := hv.form
  have HB := Lib.hid (below_new w (.cells (pageV k n (.slice A m c)) 48))
  clear hv
  unfold pageV at *
  by_cases hk : 1 ≤ k ∧ k ≤ 7
  · have HD : Hid (decide (1 ≤ k ∧ k ≤ 7) = true) := decide_eq_true hk
    have hm : (4080 : Int) < (m : Int) := by have := N.out; omega
    clear hk h
    go_enter Tryd.func26, Tryd.ntmps26
    go_wp2_with fail
    refine (isKind_any _ _).mono ?_
    rintro e w1 ⟨rfl, rfl⟩
    rw [HD.out]
    go_wp2_with fail
    go_ret2
    exact ⟨rfl, HB.out⟩
  · have HD : Hid (decide (1 ≤ k ∧ k ≤ 7) = false) := decide_eq_false hk
    clear hk h
    go_enter Tryd.func26, Tryd.ntmps26
    go_wp2_with fail
    refine (isKind_any _ _).mono ?_
    rintro e w1 ⟨rfl, rfl⟩
    rw [HD.out]
    go_wp2_with fail
    go_ret2
    exact ⟨rfl, HB.out⟩

set_option maxRecDepth 100000 in
set_option maxHeartbeats 8000000 in
theorem bytes_ok (w : World) (k nn : Nat) (vb : Value) (l : List UInt8) (hv : Byt w vb l) (h1 : 1 ≤ k) (h7 : k ≤ 7) (hl : l.length ≤ 4080) (hnn : nn < 4294967296) :
    Calls Tryd.prog 26 #[.agg (pageV (k : Int) (nn : Int) vb)] w (MadeE w (pageB k nn l)) := by
  obtain ⟨i0, hi0, hz0, hz1, hz2⟩ := info_parts uinfo
  obtain ⟨A, m, c, rfl, N, hnc, hcm⟩ := hv.form
  have HV := Lib.hid hv
  have HL := Lib.hid hl
  have HD : Hid (decide ((1 : Int) ≤ (k : Int) ∧ (k : Int) ≤ 7) = true) := by rw [Hid]; simp; omega
  have hm : ¬ (4080 : Int) < (m : Int) := by have := N.out; omega
  obtain ⟨w0, hw0⟩ : ∃ w0, w0 = w.alloc (.cells (pageV k nn (.slice A m c)) 48) := ⟨_, rfl⟩
  have HX0 : Hid (Box w0 w.heap.size k nn (.slice A m c)) := hw0 ▸ Box.new w k nn _
  have HB0 : Hid (Below w.heap.size w w0) := hw0 ▸ below_new w _
  have HW0 := Lib.hid hw0
  have HK8 : Hid ((k : Int) % 256 = ((UInt8.ofNat k).toNat : Int)) := byte_mod k
  have s1 : ∀ W, (Instr.slice 27 (.slice (some ⟨w0.heap.size, 0, none⟩) 4096 4096) (some (.int .i64 0)) (some (.int .i64 3)) none).run Tryd.prog W = .ok (.slice (some ⟨w0.heap.size, 0, none⟩) 3 4096) W := pgslice _ 0 3 (by omega) (by omega) (by omega)
  have s2 : ∀ W, (Instr.slice 27 (.slice (some ⟨w0.heap.size, 0, none⟩) 4096 4096) (some (.int .i64 4)) (some (.int .i64 8)) none).run Tryd.prog W = .ok (.slice (some ⟨w0.heap.size, 4, none⟩) 4 4092) W := pgslice _ 4 8 (by omega) (by omega) (by omega)
  have s3 : ∀ W, (Instr.slice 27 (.slice (some ⟨w0.heap.size, 0, none⟩) 4096 4096) (some (.int .i64 16)) none none).run Tryd.prog W = .ok (.slice (some ⟨w0.heap.size, 16, none⟩) 4080 4080) W := pgslice1 _ 16 (by omega)
  have s4 : ∀ W, (Instr.slice 27 (.slice (some ⟨w0.heap.size, 0, none⟩) 4096 4096) (some (.int .i64 12)) (some (.int .i64 16)) none).run Tryd.prog W = .ok (.slice (some ⟨w0.heap.size, 12, none⟩) 4 4084) W := pgslice _ 12 16 (by omega) (by omega) (by omega)
  have HK := Lib.hid h1
  have HK7 := Lib.hid h7
  unfold pageV at hw0 HW0 ⊢
  clear hv hl h1 h7 hw0
  go_enter Tryd.func26, Tryd.ntmps26
  go_wp2_with fail
  refine (isKind_any _ _).mono ?_
  rintro e w1 ⟨rfl, rfl⟩
  rw [HD.out, ← HW0.out]
  have c0 := HX0.out.cells.1
  have c2 := HX0.out.cells.2.2
  go_wp2_with (at_make; refine wpList_make_full _ rfl _ _ 27 rfl w.heap.size 5 i0 _ 1 Tryd.underlying27 hi0 hz0 hz1 _ _ _ _ 4096 rfl rfl rfl rfl (by rw [hz2]; omega) (by simp only [maxLen]; omega) (by have := HB0.out.size; omega) ?_; intro w2 hown2 hg2; have HP2 : Hid (PgSt w w2 w.heap.size w0.heap.size k nn (.slice A m c) (zsB 4096)) := ⟨HX0.out.below (below_none hg2), (own_zeros hown2).lower (Nat.zero_le _), HB0.out.trans ((below_none hg2).mono HB0.out.size), Nat.le_refl _, HB0.out.size⟩; clear hown2 hg2 c0 c2; obtain ⟨w3, hr3, hown3, ht3⟩ := run_copyS w0.heap.size 0 4096 4096 3 4096 (zsB 4096) [84, 77, 1] HP2.out.own (by simp) (by omega); have HP3 : Hid (PgSt w w3 w.heap.size w0.heap.size k nn (.slice A m c) ([84, 77, 1] ++ zsB 4093)) := row1 ▸ HP2.out.row hown3 ht3; have c0 := HP3.out.box.cells.1; have c3 := own_cell HP3.out.own (j := 3) (by rw [HP3.out.len]; omega); have hf3 : w3.frozen? ⟨w0.heap.size, 3, none⟩ = false := World.ownsRow.frozenAt HP3.out.own 3; clear hown3 ht3; generalize (List.getD ([84, 77, 1] ++ zsB 4093) 3 0).toNat = y3 at *)
  rw [HK8.out]
  have HP4 : Hid (PgSt w (w3.setCell ⟨w0.heap.size, 3, none⟩ (.int .u8 ((UInt8.ofNat k).toNat : Int))) w.heap.size w0.heap.size k nn (.slice A m c) ([84, 77, 1, UInt8.ofNat k] ++ zsB 4092)) := row2 (UInt8.ofNat k) ▸ HP3.out.set 3 (UInt8.ofNat k)
  generalize w3.setCell ⟨w0.heap.size, 3, none⟩ (.int .u8 ((UInt8.ofNat k).toNat : Int)) = w4 at *
  replace HP4 : Hid (PgSt w w4.drew w.heap.size w0.heap.size k nn (.slice A m c) ([84, 77, 1, UInt8.ofNat k] ++ zsB 4092)) := HP4.out.below (Below.refl _ _).drew
  refine wp_region_T (R := fun x y => Below x.heap.size x y) (by kernel_rfl) (fun _ => Below.refl _ _) (fun h k => h.trans (k.mono h.size)) (by kernel_rfl) 6 rfl (by kernel_rfl) (by kernel_rfl) (fun d v c a w h => by cases d <;> exact h)
    [(0, false), (1, false), (2, false), (3, false), (4, false), (5, true)] rfl (by kernel_rfl) ?_
  simp only [sel, List.getElem?_toArray, List.getElem?_cons_succ, List.getElem?_cons_zero]
  generalize HG4 : w4.drew = wd at *
  iterate 3 (refine schT_take ?_ rfl ?_ ?_; rotate_left; (focus (intro u hu; go_simp <;> rfl)); simp only [Act.put, List.setIfInBounds_toArray, List.set_cons_zero, List.set_cons_succ])
  (refine schT_take ?_ rfl ?_ ?_; rotate_left; (focus (intro u hu; have c1 := (HP4.out.below hu).box.cells.2.1; clear hu; go_simp <;> rfl)); simp only [Act.put, List.setIfInBounds_toArray, List.set_cons_zero, List.set_cons_succ])
  refine schT_take (.int .u64 (nn : Int)) rfl (fun u _ => conv64 u nn hnn _ _ rfl rfl) ?_
  simp only [Act.put, List.setIfInBounds_toArray, List.set_cons_zero, List.set_cons_succ]
  refine schT_call rfl ?_
  intro K hK
  go_simp
  refine (word_is _ _ [] nn 4 (Byt.nil _) (by omega) (by omega) (by simp)).mono ?_
  rintro e w5 ⟨v5, rfl, hown5, hb5⟩
  go_wp2_with fail
  refine hK _ _ hb5 ?_
  clear hK K
  have HP5 := Lib.hid (HP4.out.below hb5)
  have HO5 := Lib.hid hown5
  obtain ⟨A5, n5, c5, rfl, N5, hnc5, hcm5⟩ := hown5.byt.form
  clear hown5 hb5
  refine schT_nil ?_
  refine schT_last rfl rfl ?_
  refine wp_copyO 30 (.tmp 25) (.tmp 29) rfl rfl w0.heap.size 4 4096 4096 4 4092 _ (wordB 4 nn) _ rfl rfl HP5.out.own HO5.out.byt (by rw [wordB_len]; omega) (by omega) ?_
  intro w6 hown6 ht6 hs6
  have HP6 : Hid (PgSt w w6.drew w.heap.size w0.heap.size k nn (.slice A m c) ([84, 77, 1, UInt8.ofNat k] ++ (wordB 4 nn ++ zsB 4088))) := by
    have := HP5.out.row hown6 ht6
    rw [row3] at this
    exact this.below (Below.refl _ _).drew
  clear hown6 ht6 hs6
  go_wp2_with fail
  refine wp_region_T (R := fun x y => x = y) (by kernel_rfl) (fun _ => rfl) (fun h k => h.trans k) (by kernel_rfl) 4 rfl (by kernel_rfl) (by kernel_rfl) (fun d v c a w h => by cases d <;> exact h)
    [(0, false), (1, false), (2, false), (3, false)] rfl (by kernel_rfl) ?_
  simp only [sel, List.getElem?_toArray, List.getElem?_cons_succ, List.getElem?_cons_zero]
  generalize HG6 : w6.drew = wd6 at *
  iterate 3 (refine schT_take ?_ rfl ?_ ?_; rotate_left; (focus (intro u hu; go_simp <;> rfl)); simp only [Act.put, List.setIfInBounds_toArray, List.set_cons_zero, List.set_cons_succ])
  (refine schT_take ?_ rfl ?_ ?_; rotate_left; (focus (intro u hu; have c2 := (hu ▸ HP6.out).box.cells.2.2; clear hu; go_simp <;> rfl)); simp only [Act.put, List.setIfInBounds_toArray, List.set_cons_zero, List.set_cons_succ])
  refine schT_nil ?_
  refine schT_last rfl rfl ?_
  refine wp_copyO 35 (.tmp 32) (.tmp 34) rfl rfl w0.heap.size 16 4096 4096 4080 4080 _ l _ rfl rfl HP6.out.own (HV.out.below HP6.out.bel) HL.out (by omega) ?_
  intro w7 hown7 ht7 hs7
  have HP7 : Hid (PgSt w w7.drew w.heap.size w0.heap.size k nn (.slice A m c) (headB k nn ++ (zsB 4 ++ padB l))) := by
    have := HP6.out.row hown7 ht7
    rw [row4 k nn HL.out] at this
    exact this.below (Below.refl _ _).drew
  clear hown7 ht7 hs7
  go_wp2_with fail
  refine wp_region_T (R := fun x y => Below x.heap.size x y) (by kernel_rfl) (fun _ => Below.refl _ _) (fun h k => h.trans (k.mono h.size)) (by kernel_rfl) 4 rfl (by kernel_rfl) (by kernel_rfl) (fun d v c a w h => by cases d <;> exact h)
    [(0, false), (1, false), (2, false), (3, true)] rfl (by kernel_rfl) ?_
  simp only [sel, List.getElem?_toArray, List.getElem?_cons_succ, List.getElem?_cons_zero]
  generalize HG7 : w7.drew = wd7 at *
  iterate 3 (refine schT_take ?_ rfl ?_ ?_; rotate_left; (focus (intro u hu; go_simp <;> rfl)); simp only [Act.put, List.setIfInBounds_toArray, List.set_cons_zero, List.set_cons_succ])
  refine schT_call rfl ?_
  intro K hK
  go_simp
  refine (pgsum_any _ _ _ HP7.out.own.byt HP7.out.len).mono ?_
  rintro e w8 ⟨v8, rfl, hown8, hb8⟩
  go_wp2_with fail
  refine hK _ _ hb8 ?_
  clear hK K
  have HP8 := Lib.hid (HP7.out.below hb8)
  have HO8 := Lib.hid hown8
  obtain ⟨A8, n8, c8, rfl, N8, hnc8, hcm8⟩ := hown8.byt.form
  clear hown8 hb8
  refine schT_nil ?_
  refine schT_last rfl rfl ?_
  refine wp_copyO 40 (.tmp 37) (.tmp 39) rfl rfl w0.heap.size 12 4096 4096 4 4084 _ _ _ rfl rfl HP8.out.own HO8.out.byt (by rw [wordB_len]; omega) (by omega) ?_
  intro w9 hown9 ht9 hs9
  have HP9 : Hid (PgSt w w9 w.heap.size w0.heap.size k nn (.slice A m c) (pageB k nn l)) := by
    have := HP8.out.row hown9 ht9
    rw [row5] at this
    exact this
  clear hown9 ht9 hs9
  go_wp2_with fail
  go_ret2
  exact ⟨_, rfl, HP9.out.own.lift HP9.out.hg, HP9.out.bel⟩
end Go.Proofs.YtknagdbhhfelnaaDoor

/-
  Package page: Read, Same by their contracts. Conditions: none.
-/
namespace Go.Proofs.YtknagdbhhfelnaaDoor
open Go.RowKit Go.Maps
set_option maxRecDepth 100000

theorem wordR_four {m : List UInt8} (h : m.length = 4) : (wordR m 0 4).1 = wordN m := by
  have := read_word 4 (wordN m) [] (by omega)
  rw [List.append_nil, wordB_four h] at this
  have e : wordR m 0 4 = wordR m 0 ((4 : Nat) : Int) := rfl
  rw [e, this]
  have := wordN_lt m
  rw [h] at this
  exact Nat.mod_eq_of_lt this
theorem Box.frozen {w : World} {p : Nat} {k n : Int} {vb : Value} (h : Box w p k n vb) (j : Nat) : w.frozen? ⟨p, j, none⟩ = false := by
  unfold Box at h
  simp [World.frozen?, h]
theorem Box.grown {w w' : World} {p : Nat} {k n : Int} {vb : Value} {g : Nat} (h : Box w p k n vb) (hg : w.grownBy w' (some g)) (hne : p ≠ g) : Box w' p k n vb :=
  (hg.block p h.lt (by simpa using hne)).trans h
theorem Box.set {w : World} {p : Nat} {k n : Int} {vb : Value} (h : Box w p k n vb) (k' n' : Int) (vb' : Value) :
    Box (((w.setCell ⟨p, 0, none⟩ (.int .i64 k')).setCell ⟨p, 1, none⟩ (.int .u32 n')).setCell ⟨p, 2, none⟩ vb') p k' n' vb' := by
  unfold Box at h ⊢
  simp [World.setCell, Array.getElem?_modify, h, pageV]
theorem bel_set3 {B p : Nat} {w u : World} (h : Below B w u) (hp : B ≤ p) (v0 v1 v2 : Value) : Below B w (((u.setCell ⟨p, 0, none⟩ v0).setCell ⟨p, 1, none⟩ v1).setCell ⟨p, 2, none⟩ v2) :=
  ((h.setCell hp _).setCell hp _).setCell hp _
theorem Box.notByte {w : World} {p : Nat} {k n : Int} {A : Option Addr} {m c : Nat} (h : Box w p k n (.slice A m c)) : ¬ ∃ off u, w.cell? ⟨p, off, none⟩ = some (.int .u8 u) := by
  rintro ⟨off, u, hc⟩
  unfold Box at h
  rw [cell_of_row _ _ _ _ _ _ h] at hc
  unfold pageV at hc
  match off, hc with
  | 0, hc => simp at hc
  | 1, hc => simp at hc
  | 2, hc => simp at hc
  | n + 3, hc => simp at hc
theorem Byt.set3 {w : World} {p : Nat} {k n : Int} {A : Option Addr} {m c : Nat} (h : Box w p k n (.slice A m c)) (v0 v1 v2 : Value) {v : Value} {l : List UInt8} (hv : Byt w v l) : Byt (((w.setCell ⟨p, 0, none⟩ v0).setCell ⟨p, 1, none⟩ v1).setCell ⟨p, 2, none⟩ v2) v l := by
  refine hv.keep (by rw [setCell_size, setCell_size, setCell_size]; exact Nat.le_refl _) (fun b hb hu => ?_)
  have hne : b ≠ p := fun e => h.notByte (e ▸ hu)
  rw [heap_cell_other hne, heap_cell_other hne, heap_cell_other hne]
theorem Own.set3 {w : World} {p B : Nat} {k n : Int} {vb : Value} (h : Box w p k n vb) (v0 v1 v2 : Value) {v : Value} {l : List UInt8} (hv : Own w B 5 v l) : Own (((w.setCell ⟨p, 0, none⟩ v0).setCell ⟨p, 1, none⟩ v1).setCell ⟨p, 2, none⟩ v2) B 5 v l := by
  refine ownsRow_sameB hv (fun i hi => ?_)
  obtain ⟨cur, hc⟩ := ownsRow_block (hv.lower (Nat.zero_le _)) hi
  have hne : i ≠ p := tag_ne hc h (by decide)
  rw [heap_cell_other hne, heap_cell_other hne, heap_cell_other hne]
/-- A page that is told. -/
def ReadE (w : World) (l : List UInt8) (e : Ending) (w' : World) : Prop :=
  ∃ v, e = .returned (.tuple #[.agg (pageV ((l.getD 3 0).toNat : Int) (numW l : Int) v), .int .i64 0]) ∧ Own w' w.heap.size 5 v (l.drop 16) ∧ Below w.heap.size w w'
def ReadN (w : World) (e : Ending) (w' : World) : Prop := e = .returned (.tuple #[.agg (pageV 0 0 (.slice none 0 0)), .int .i64 4]) ∧ Below w.heap.size w w'
set_option maxHeartbeats 1000000 in
theorem read_bad (w : World) (v : Value) (l : List UInt8) (hv : Byt w v l) (h : ¬ okB l) : Calls Tryd.prog 64 #[v] w (ReadN w) := by
  have HK : Hid (kindB l = 0) := (kindB_zero l).2 h
  have HV := Lib.hid (hv.alloc (.cells (pageV 0 0 (.slice none 0 0)) 48))
  have HX := Lib.hid (Box.new w 0 0 (.slice none 0 0))
  have HB := Lib.hid (below_new w (.cells (pageV 0 0 (.slice none 0 0)) 48))
  obtain ⟨A, m, c, rfl, N, hnc, hcm⟩ := hv.form
  clear hv h
  generalize hw0 : w.alloc (.cells (pageV 0 0 (.slice none 0 0)) 48) = w0 at *
  have HW0 := Lib.hid hw0
  unfold pageV at HW0
  clear hw0
  go_enter Tryd.func64, Tryd.ntmps64
  go_wp2_with fail
  rw [HW0.out]
  refine (kind_any _ _ l HV.out).mono ?_
  rintro e w1 ⟨rfl, hb1⟩
  rw [HK.out]
  have hx1 := Lib.hid (HX.out.below hb1)
  obtain ⟨c0, c1, c2⟩ := hx1.out.cells
  have f0 := hx1.out.frozen 0
  have f1 := hx1.out.frozen 1
  have f2 := hx1.out.frozen 2
  have HB1 := Lib.hid (HB.out.trans (hb1.mono HB.out.size))
  clear hb1
  go_wp2_with fail
  have HX9 := Lib.hid (hx1.out.set 0 0 (.slice none 0 0))
  have HB9 := Lib.hid (bel_set3 HB1.out (Nat.le_refl _) (.int .i64 0) (.int .u32 0) (.slice none 0 0))
  generalize ((w1.setCell ⟨w.heap.size, 0, none⟩ (.int .i64 0)).setCell ⟨w.heap.size, 1, none⟩ (.int .u32 0)).setCell ⟨w.heap.size, 2, none⟩ (.slice none 0 0) = w9 at *
  obtain ⟨d0, d1, d2⟩ := HX9.out.cells
  refine bodyPost_ret (v := .tuple #[.agg (pageV 0 0 (.slice none 0 0)), .int .i64 4]) (by simp [results, Tryd.results64, go_sem, pageV, d0, d1, d2]) rfl ?_
  exact ⟨rfl, HB9.out⟩
set_option maxRecDepth 100000 in
set_option maxHeartbeats 4000000 in
theorem read_ok (w : World) (v : Value) (l : List UInt8) (hv : Byt w v l) (h : okB l) : Calls Tryd.prog 64 #[v] w (ReadE w l) := by
  have hl := h.1.1
  have HK : Hid (kindB l = (l.getD 3 0).toNat) := kindB_ok h
  have hk1 := h.2.1.1
  have HX := Lib.hid (Box.new w 0 0 (.slice none 0 0))
  have HB := Lib.hid (below_new w (.cells (pageV 0 0 (.slice none 0 0)) 48))
  obtain ⟨A, m, c, rfl, N, hnc, hcm⟩ := hv.form
  obtain rfl : m = 4096 := N.out.trans hl
  obtain ⟨A1, n1, c1, r1, b1, N1, _, _⟩ := hv.midrun 4 8 (by omega) (by omega)
  have r1' : ∀ W, (Instr.slice 27 (.slice A 4096 c) (some (.int .i64 4)) (some (.int .i64 8)) none).run Tryd.prog W = .ok (.slice A1 n1 c1) W := r1
  obtain ⟨A2, n2, c2, r2, b2, N2, _, _⟩ := hv.midrun 16 4096 (by omega) (by omega)
  have r2' : ∀ W, (Instr.slice 27 (.slice A 4096 c) (some (.int .i64 16)) (some (.int .i64 4096)) none).run Tryd.prog W = .ok (.slice A2 n2 c2) W := r2
  have HV := Lib.hid hv
  have H4 : Hid ((l.drop 4).take (8 - 4) = (l.drop 4).take 4) := rfl
  have hd : (l.drop 16).take (4096 - 16) = l.drop 16 := List.take_of_length_le (by rw [List.length_drop]; omega)
  rw [hd] at b2
  have B1 : Hid (Byt w (.slice A1 n1 c1) ((l.drop 4).take 4)) := b1
  have B2 := Lib.hid b2
  have HW : Hid ((wordR ((l.drop 4).take 4) 0 4).1 = numW l) := wordR_four (by rw [List.length_take, List.length_drop]; omega)
  have HNL := Lib.hid (numW_lt l)
  have HL4 : Hid (((l.drop 4).take 4).length ≤ 4) := by rw [Hid, List.length_take]; omega
  have HLL := Lib.hid hl
  clear hv h r1 r2 b1 b2 hd
  unfold ReadE
  generalize hx : (l.getD 3 0).toNat = x at *
  have hne : ((x : Int) == 0) = false := by simp; omega
  generalize hw0 : w.alloc (.cells (pageV 0 0 (.slice none 0 0)) 48) = w0 at *
  have HW0 := Lib.hid hw0
  unfold pageV at HW0
  clear hw0 hx
  go_enter Tryd.func64, Tryd.ntmps64
  go_wp2_with fail
  rw [HW0.out]
  refine (kind_any _ _ l (HV.out.below HB.out)).mono ?_
  rintro e w1 ⟨rfl, hb1⟩
  rw [HK.out]
  have HX1 := Lib.hid (HX.out.below hb1)
  have HB1 := Lib.hid (HB.out.trans (hb1.mono HB.out.size))
  clear hb1
  go_wp2_with fail
  refine (new_any _ _ _ (B1.out.below HB1.out) (by have := HL4.out; omega)).mono ?_
  rintro e w2 ⟨g, rfl, hg, hr2, hb2⟩
  have HX2 := Lib.hid (HX1.out.below hb2)
  have HB2 := Lib.hid (HB1.out.trans (hb2.mono HB1.out.size))
  have HR2 := Lib.hid hr2
  have HNE : Hid (w.heap.size ≠ g) := by have := HX1.out.lt; rw [Hid]; omega
  have HG : Hid (w.heap.size ≤ g) := by have := HB1.out.size; rw [Hid]; omega
  clear hr2 hb2 hg
  go_wp2_with fail
  refine (rword_is _ g 0 _ 4 HR2.out (by have := HL4.out; omega)).mono ?_
  rintro e w3 ⟨rfl, hr3, hg3⟩
  rw [HW.out]
  have HX3 := Lib.hid (HX2.out.grown hg3 HNE.out)
  have HB3 := Lib.hid (HB2.out.grown hg3 HB2.out.size (fun k e => by injection e with e; exact e ▸ HG.out))
  clear hr3 hg3
  have HNW : Hid ((numW l : Int) % 4294967296 = (numW l : Int)) := by have := HNL.out; rw [Hid]; omega
  generalize hnw : numW l = nw at *
  have HQ := Lib.hid hnw
  clear hnw
  go_wp2_with fail
  refine (cloneb_any _ _ _ (B2.out.below HB3.out) (by rw [List.length_drop]; have := HLL.out; omega)).mono ?_
  rintro e w4 ⟨v4, rfl, hown4, hb4⟩
  have HX4 := Lib.hid (HX3.out.below hb4)
  have HB4 := Lib.hid (HB3.out.trans (hb4.mono HB3.out.size))
  have HO4 := Lib.hid (hown4.lower HB3.out.size)
  obtain ⟨A4, n4, c4, rfl, N4, hnc4, hcm4⟩ := hown4.byt.form
  obtain ⟨d0, d1, d2⟩ := HX4.out.cells
  have f0 := HX4.out.frozen 0
  have f1 := HX4.out.frozen 1
  have f2 := HX4.out.frozen 2
  clear hown4 hb4
  go_wp2_with fail
  rw [HNW.out]
  have HX9 := Lib.hid (HX4.out.set x nw (.slice A4 n4 c4))
  have HB9 := Lib.hid (bel_set3 HB4.out (Nat.le_refl _) (.int .i64 x) (.int .u32 nw) (.slice A4 n4 c4))
  have HO9 := Lib.hid (Own.set3 HX4.out (.int .i64 x) (.int .u32 nw) (.slice A4 n4 c4) HO4.out)
  generalize ((w4.setCell ⟨w.heap.size, 0, none⟩ (.int .i64 x)).setCell ⟨w.heap.size, 1, none⟩ (.int .u32 nw)).setCell ⟨w.heap.size, 2, none⟩ (.slice A4 n4 c4) = w9 at *
  clear d0 d1 d2
  obtain ⟨d0, d1, d2⟩ := HX9.out.cells
  refine bodyPost_ret (v := .tuple #[.agg (pageV x nw (.slice A4 n4 c4)), .int .i64 0]) (by simp [results, Tryd.results64, go_sem, pageV, d0, d1, d2]) rfl ?_
  exact ⟨_, by rw [HQ.out], HO9.out, HB9.out⟩
/-- What a call that tells yes or no, and may make memory, leaves. -/
def BoolB (w : World) (b : Bool) (e : Ending) (w' : World) : Prop := e = .returned (.bool b) ∧ Below w.heap.size w w'
end Go.Proofs.YtknagdbhhfelnaaDoor

/-
  The laws of layer 5: their 'lives', and a page that comes in. Conditions: none.
-/
namespace Go.Proofs.YtknagdbhhfelnaaDoor
open Go.RowKit Go.Maps
set_option maxRecDepth 100000

/-- Read of a page's bytes. -/
def ReadP (w : World) (k n : Nat) (l : List UInt8) (e : Ending) (w' : World) : Prop :=
  ∃ v, e = .returned (.tuple #[.agg (pageV (k : Int) (n : Int) v), .int .i64 0]) ∧ Own w' w.heap.size 5 v l ∧ Below w.heap.size w w'
theorem read_page (w : World) (v : Value) (k n : Nat) (l : List UInt8) (hv : Byt w v (pageB k n l)) (h1 : 1 ≤ k) (h7 : k ≤ 7) (hl : l.length ≤ 4080) (hn : n < 4294967296) : Calls Tryd.prog 64 #[v] w (ReadP w k n (padB l)) := by
  have := read_ok w v _ hv (pageB_ok h1 h7 hl)
  unfold ReadE at this
  rw [pageB_kind k n l (by omega), pageB_num k n l hn, pageB_drop] at this
  exact this
theorem lives5_head : (pageB 6 258 [97, 98]).take 12 = [84, 77, 1, 6, 2, 1, 0, 0, 0, 0, 0, 0] := by rw [pageB_take]; decide
theorem lives5_body : (padB [97, 98]).take 3 = [97, 98, 0] := by
  unfold padB
  rw [show 4080 - [(97 : UInt8), 98].length = 1 + 4077 from rfl, zs_split]
  rfl
end Go.Proofs.YtknagdbhhfelnaaDoor

/-
  A page that came in, opened: what its cells hold. Conditions: none.
-/
namespace Go.Proofs.YtknagdbhhfelnaaDoor
open Go.ChangeShapes Go.WideShapes Go.ChangeAt Go.RowKit Go.Deep Go.Maps
set_option maxRecDepth 100000

theorem cellP0 : Tryd.prog.cellsOf 3 = 1 := by kernel_rfl
theorem cellP1 : Tryd.prog.cellsOf 44 = 1 := by kernel_rfl
theorem cellP2 : Tryd.prog.cellsOf 27 = 1 := by kernel_rfl
theorem cellPage : Tryd.prog.cellsOf 48 = 3 := by kernel_rfl
section
variable {H : Type} {enc : TypeId × Value → H} {W : World}
theorem open_bytesF {fuel : Nat} {cs : List Value} {x : DataW H × List MemPlace} (h : DataW.trod enc Tryd.prog W 0 (fun _ => true) true fuel 27 cs = some x) : ∃ (v : Value) (l : List UInt8), cs = [v] ∧ Byt W v l := by
  obtain ⟨d, p⟩ := x
  rcases open_ints Tryd.underlying27 Tryd.underlying5 (by kernel_rfl) h with ⟨hcs, _⟩ | ⟨a, len, cap, zs, hcs, _⟩
  · exact ⟨_, [], hcs, Byt.nil W⟩
  · subst hcs
    obtain ⟨l, hl⟩ := open_bytesV h
    exact ⟨_, l, rfl, hl⟩
theorem open_pageF {fuel : Nat} {cs : List Value} {x : DataW H × List MemPlace} (h : DataW.trod enc Tryd.prog W 0 (fun _ => true) true fuel 48 cs = some x) :
    ∃ (k : Int) (n : Nat) (vb : Value) (l : List UInt8), cs = [.int .i64 k, .int .u32 (n : Int), vb] ∧ Byt W vb l ∧ (-9223372036854775808 ≤ k ∧ k ≤ 9223372036854775807) ∧ n < 4294967296 := by
  obtain ⟨y0, y1, y2, n, _, hl, g0, g1, g2⟩ := trod_struct3 Tryd.underlying48 h
  rw [cellPage] at hl
  simp only [cellP0, cellP1, cellP2] at g0 g1 g2
  obtain ⟨k, e0, _, w0⟩ := DataW.trod_int Tryd.underlying3 g0
  obtain ⟨nn, e1, _, w1⟩ := DataW.trod_int Tryd.underlying44 g1
  obtain ⟨vb, l, e2, hb⟩ := open_bytesF g2
  obtain ⟨n32, rfl, hn⟩ := open_u32 w1
  match cs, hl with
  | [c0, c1, c2], _ =>
    simp at e0 e1 e2
    subst e0 e1 e2
    exact ⟨k, n32, c2, l, rfl, hb, open_i64 w0, hn⟩
theorem open_page {base : Nat} {v : Value} {d : DataW H} {p : List MemPlace}
    (hv : Value.okWide Tryd.prog W .any base 48 v) (h : DataW.Trod enc Tryd.prog W 0 (fun _ => true) true 48 v d p) :
    ∃ (k : Int) (n : Nat) (vb : Value) (l : List UInt8), v = .agg (pageV k (n : Int) vb) ∧ Byt W vb l ∧ (-9223372036854775808 ≤ k ∧ k ≤ 9223372036854775807) ∧ n < 4294967296 := by
  obtain ⟨cs, rfl, _⟩ := okWide_struct Tryd.underlying48 hv
  obtain ⟨fuel, hf⟩ := h
  obtain ⟨k, n, vb, l, e, hb, b1, b2⟩ := open_pageF hf
  refine ⟨k, n, vb, l, ?_, hb, b1, b2⟩
  simp [Value.cells] at e
  obtain ⟨l⟩ := cs
  simp at e
  subst e
  rfl
end
end Go.Proofs.YtknagdbhhfelnaaDoor

/-
  Small facts that the laws of layer 5 share. Conditions: none.
-/
namespace Go.Proofs.YtknagdbhhfelnaaDoor
open Go.RowKit Go.Maps
set_option maxRecDepth 100000

theorem byte_xor (x y : UInt8) : bits .xor .u8 (x.toNat : Int) (y.toNat : Int) = ((x ^^^ y).toNat : Int) := by
  rw [u8_xor_nat _ _ (byte_lt x) (byte_lt y), UInt8.toNat_xor]
/-- A row of the call's own that has bytes lies in a block. -/
theorem Own.at {w : World} {B : Nat} {e : TypeId} {v : Value} {l : List UInt8} (h : Own w B e v l) (hl : 0 < l.length) : ∃ g c, v = .slice (some ⟨g, 0, none⟩) l.length c ∧ B ≤ g ∧ g < w.heap.size ∧ l.length ≤ c ∧ c ≤ 9223372036854775807 := by
  rcases h.2 with ⟨_, e⟩ | ⟨g, cap, cur, rfl, hb, hg, h1, h2, _⟩
  · omega
  · unfold maxLen at h2
    exact ⟨g, cap, rfl, hb, (Array.getElem?_eq_some_iff.1 hg).1, h1, by omega⟩
theorem Own.set3o {w : World} {p B : Nat} {k n : Int} {A : Option Addr} {m c : Nat} (h : Box w p k n (.slice A m c)) (v0 v1 v2 : Value) {v : Value} {l : List UInt8} (hv : Own w B 5 v l) : Own (((w.setCell ⟨p, 0, none⟩ v0).setCell ⟨p, 1, none⟩ v1).setCell ⟨p, 2, none⟩ v2) B 5 v l := Own.set3 h v0 v1 v2 hv
theorem Box.set3 {w : World} {p q : Nat} {k n k' n' : Int} {vb vb' : Value} (h : Box w p k n vb) (_h' : Box w q k' n' vb') (hne : p ≠ q) (v0 v1 v2 : Value) : Box (((w.setCell ⟨q, 0, none⟩ v0).setCell ⟨q, 1, none⟩ v1).setCell ⟨q, 2, none⟩ v2) p k n vb := by
  unfold Box
  rw [heap_cell_other hne, heap_cell_other hne, heap_cell_other hne]
  exact h
theorem own_frozen {w : World} {B g n c : Nat} {e : TypeId} {l : List UInt8} (h : Own w B e (.slice (some ⟨g, 0, none⟩) n c) l) (hl : l.length = n) (j : Nat) : w.frozen? ⟨g, j, none⟩ = false := by
  unfold Own at h
  rw [hl] at h
  exact World.ownsRow.frozenAt h j
theorem xor0 (x : UInt8) : x ^^^ 0 = x := by simp
theorem xor_ne {x y : UInt8} (h : y ≠ 0) : x ^^^ y ≠ x := fun e => h (xor8_zero x y e)
theorem set_same {l : List UInt8} {i : Nat} : l.set i (l.getD i 0) = l := by
  by_cases h : i < l.length
  · rw [getDb h, List.set_getElem_self]
  · rw [List.set_eq_of_length_le (by omega)]
end Go.Proofs.YtknagdbhhfelnaaDoor

