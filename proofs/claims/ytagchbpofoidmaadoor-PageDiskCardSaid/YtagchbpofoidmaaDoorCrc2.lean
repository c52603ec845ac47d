/-
  Bytes changed within four places: their sum is the same where nothing was changed, and there alone; three rows xor each other, byte by byte. No program is named here.
-/
import Derived.Test.YtagchbpofoidmaaDoorCrc
namespace Go.Proofs.YtagchbpofoidmaaDoor
set_option maxRecDepth 100000

/-- The i-th byte of a number. -/
def dB (n i : Nat) : UInt8 := UInt8.ofNat (n / 256 ^ i % 256)
/-- The row, its bytes from k on changed by the first i bytes of n. -/
def yC (a : List UInt8) (k n : Nat) : Nat → List UInt8
  | 0 => a
  | i + 1 => (yC a k n i).set (k + i) ((yC a k n i).getD (k + i) 0 ^^^ dB n i)
/-- Is one of these not 0? -/
def chC (n : Nat) : Nat → Bool
  | 0 => false
  | i + 1 => chC n i || dB n i != 0

theorem yC_len (a : List UInt8) (k n i : Nat) : (yC a k n i).length = a.length := by
  induction i with
  | zero => rfl
  | succ i ih => simp [yC, ih]
theorem yC_far (a : List UInt8) (k n i j : Nat) (h : j < k ∨ k + i ≤ j) : (yC a k n i)[j]? = a[j]? := by
  induction i with
  | zero => rfl
  | succ i ih =>
    rw [yC, List.getElem?_set_ne (by omega)]
    exact ih (by omega)
theorem yC_at (a : List UInt8) (k n i : Nat) : (yC a k n i).getD (k + i) 0 = a.getD (k + i) 0 := by
  rw [List.getD_eq_getElem?_getD, List.getD_eq_getElem?_getD, yC_far a k n i (k + i) (.inr (Nat.le_refl _))]
theorem xor8_zero (x d : UInt8) (h : x ^^^ d = x) : d = 0 := by
  have h2 : x ^^^ (x ^^^ d) = x ^^^ x := by rw [h]
  rw [← UInt8.xor_assoc, UInt8.xor_self, UInt8.zero_xor] at h2
  exact h2
theorem yC_eq (a : List UInt8) (k n : Nat) : ∀ i, k + i ≤ a.length → (yC a k n i = a ↔ chC n i = false) := by
  intro i
  induction i with
  | zero => intro _; simp [yC, chC]
  | succ i ih =>
    intro hi
    have ih' := ih (by omega)
    have hlt : k + i < (yC a k n i).length := by rw [yC_len]; omega
    have hat := yC_at a k n i
    constructor
    · intro h
      have hi1 : (yC a k n (i + 1))[k + i]? = a[k + i]? := by rw [h]
      rw [yC, List.getElem?_set_self hlt, hat] at hi1
      have hka : k + i < a.length := by omega
      rw [List.getElem?_eq_getElem hka, List.getD_eq_getElem?_getD, List.getElem?_eq_getElem hka] at hi1
      have hd : dB n i = 0 := xor8_zero _ _ (by simpa using hi1)
      have hy : yC a k n i = a := by
        apply List.ext_getElem?
        intro j
        by_cases hj : j = k + i
        · subst hj; exact yC_far a k n i _ (.inr (Nat.le_refl _))
        · have : (yC a k n (i + 1))[j]? = a[j]? := by rw [h]
          rw [yC, List.getElem?_set_ne (by omega)] at this
          exact this
      rw [chC, ih'.1 hy, hd]
      rfl
    · intro h
      rw [chC, Bool.or_eq_false_iff] at h
      have hy := ih'.2 h.1
      have hd : dB n i = 0 := by simpa using h.2
      rw [yC, hd, UInt8.xor_zero, hy]
      have hka : k + i < a.length := by omega
      rw [List.getD_eq_getElem?_getD, List.getElem?_eq_getElem hka]
      exact List.set_getElem_self hka
theorem cut3 (l : List UInt8) (k i : Nat) : l = l.take k ++ (l.drop k).take i ++ l.drop (k + i) := by
  rw [List.append_assoc, ← List.drop_drop, List.take_append_drop, List.take_append_drop]
theorem yC_tells (a : List UInt8) (k n i : Nat) (hi : i ≤ 4) (hk : k + i ≤ a.length) : (sumC (yC a k n i) = sumC a ↔ chC n i = false) := by
  rw [← yC_eq a k n i hk]
  constructor
  · intro h
    have h1 : (yC a k n i).take k = a.take k := by
      apply List.ext_getElem?
      intro j
      rw [List.getElem?_take, List.getElem?_take]
      split
      · exact yC_far a k n i j (.inl (by omega))
      · rfl
    have h2 : (yC a k n i).drop (k + i) = a.drop (k + i) := by
      apply List.ext_getElem?
      intro j
      rw [List.getElem?_drop, List.getElem?_drop]
      exact yC_far a k n i _ (.inr (by omega))
    have h3 := cut3 (yC a k n i) k i
    have h4 := cut3 a k i
    rw [h1, h2] at h3
    have h5 : ((yC a k n i).drop k).take i = (a.drop k).take i := by
      apply sumC_four (p := a.take k) (r := a.drop (k + i))
      · rw [List.length_take, List.length_take, List.length_drop, List.length_drop, yC_len]
      · rw [List.length_take]; omega
      · rw [← h3, ← h4]; exact h
    rw [h3, h5, ← h4]
  · intro h
    rw [h]

theorem mixC_snoc : ∀ (a b c : List UInt8) (x y z : UInt8), a.length = b.length → b.length = c.length → mixC (a ++ [x]) (b ++ [y]) (c ++ [z]) = mixC a b c ++ [x ^^^ y ^^^ z] := by
  intro a
  induction a with
  | nil =>
    intro b c x y z h1 h2
    obtain rfl : b = [] := List.eq_nil_of_length_eq_zero (by simpa using h1.symm)
    obtain rfl : c = [] := List.eq_nil_of_length_eq_zero (by simpa using h2.symm)
    rfl
  | cons u a ih =>
    intro b c x y z h1 h2
    cases b with
    | nil => simp at h1
    | cons v b =>
      cases c with
      | nil => simp at h2
      | cons t c =>
        simp only [List.cons_append, mixC]
        rw [ih b c x y z (by simpa using h1) (by simpa using h2)]
theorem mixC_take (a b c : List UInt8) (k : Nat) (ha : k < a.length) (hb : k < b.length) (hc : k < c.length) :
    mixC (a.take (k + 1)) (b.take (k + 1)) (c.take (k + 1)) = mixC (a.take k) (b.take k) (c.take k) ++ [a[k] ^^^ b[k] ^^^ c[k]] := by
  rw [List.take_succ_eq_append_getElem ha, List.take_succ_eq_append_getElem hb, List.take_succ_eq_append_getElem hc, mixC_snoc]
  · rw [List.length_take, List.length_take]; omega
  · rw [List.length_take, List.length_take]; omega
end Go.Proofs.YtagchbpofoidmaaDoor
