/-
  The texts Crc, Crc2, Tab, On, Parts, Open, Ord, OrdT in one. Conditions: as each part says.
-/
import Derived.Test.YtknagdbhhfelnaaDoorRows
import Derived.Laws.BitsAllLaws
import Derived.Test.YtknagdbhhfelnaaDoorMg0
import Derived.Deep.WholeRow
import Derived.ProofKit
import Derived.OpenShut
import Derived.ShutString
import Derived.ChangeOld
import Derived.WalkKit
import Derived.OrdersHeld
import Derived.StillTail
/-
  The published sum of 32 bits as plain functions of numbers and bytes: its table, its steps, and what follows: they go with exclusive or, a step loses nothing, bytes that differ within four places alone have unlike sums. No program is named here.
-/
namespace Go.Proofs.YtknagdbhhfelnaaDoor
set_option maxRecDepth 100000

def bitC (w : Nat) : Nat := if w % 2 = 1 then w / 2 ^^^ 2197175160 else w / 2
def iterC : Nat → Nat → Nat
  | 0, w => w
  | k + 1, w => iterC k (bitC w)
def wordC (w : Nat) : Nat := iterC 8 w
def tabC : List Nat := (List.range 256).map wordC
def notC (x : Nat) : Nat := 4294967295 - x
def stepC (t : List Nat) (s : Nat) (x : UInt8) : Nat := t.getD (s % 256 ^^^ x.toNat) 0 ^^^ s / 256
def runC (t : List Nat) (s : Nat) (l : List UInt8) : Nat := l.foldl (stepC t) s
def onC (t : List Nat) (s : Nat) (l : List UInt8) : Nat := notC (runC t (notC s) l)
def sumC (l : List UInt8) : Nat := onC tabC 0 l
/-- A table: 256 words. -/
def Tab (t : List Nat) : Prop := t.length = 256 ∧ ∀ x ∈ t, x < 4294967296

theorem xor32_lt {a b : Nat} (ha : a < 4294967296) (hb : b < 4294967296) : a ^^^ b < 4294967296 := Nat.xor_lt_two_pow (n := 32) ha hb
theorem xor8_lt {a b : Nat} (ha : a < 256) (hb : b < 256) : a ^^^ b < 256 := Nat.xor_lt_two_pow (n := 8) ha hb
theorem xor_half (a b : Nat) : (a ^^^ b) / 2 = a / 2 ^^^ b / 2 := by
  have := Nat.xor_div_two_pow (a := a) (b := b) (n := 1)
  simpa using this
theorem xor_odd (a b : Nat) : (a ^^^ b) % 2 = (a % 2 + b % 2) % 2 := by
  have := Nat.xor_mod_two_pow (a := a) (b := b) (n := 1)
  have h : (a ^^^ b) % 2 = a % 2 ^^^ b % 2 := by simpa using this
  rw [h]
  rcases Nat.mod_two_eq_zero_or_one a with h1 | h1 <;> rcases Nat.mod_two_eq_zero_or_one b with h2 | h2 <;> rw [h1, h2] <;> rfl

theorem bitC_lt {w : Nat} (h : w < 4294967296) : bitC w < 4294967296 := by
  unfold bitC
  split
  · exact xor32_lt (by omega) (by omega)
  · omega
theorem xor_mid (a b c : Nat) : (a ^^^ c) ^^^ (b ^^^ c) = a ^^^ b := by
  rw [Nat.xor_comm b c, ← Nat.xor_assoc, Nat.xor_assoc a c c, Nat.xor_self, Nat.xor_zero]
theorem bitC_xor (a b : Nat) : bitC (a ^^^ b) = bitC a ^^^ bitC b := by
  unfold bitC
  rw [xor_odd, xor_half]
  rcases Nat.mod_two_eq_zero_or_one a with h1 | h1 <;> rcases Nat.mod_two_eq_zero_or_one b with h2 | h2 <;> simp only [h1, h2]
  · rfl
  · simp [Nat.xor_assoc]
  · simp
    rw [Nat.xor_assoc, Nat.xor_comm (b / 2), ← Nat.xor_assoc]
  · simp [xor_mid]
theorem top_xor {a : Nat} (h : a < 2147483648) : 2147483648 ≤ a ^^^ 2197175160 := by
  rcases Nat.lt_or_ge (a ^^^ 2197175160) 2147483648 with h1 | h1
  · exfalso
    have h2 : a ^^^ (a ^^^ 2197175160) < 2147483648 := Nat.xor_lt_two_pow (n := 31) h h1
    rw [← Nat.xor_assoc, Nat.xor_self, Nat.zero_xor] at h2
    omega
  · exact h1
theorem bitC_zero {w : Nat} (hw : w < 4294967296) (h : bitC w = 0) : w = 0 := by
  unfold bitC at h
  split at h
  · have := top_xor (a := w / 2) (by omega)
    omega
  · omega
theorem xor_zero {a b : Nat} (h : a ^^^ b = 0) : a = b := by
  have h2 : a ^^^ (a ^^^ b) = a ^^^ 0 := by rw [h]
  rw [← Nat.xor_assoc, Nat.xor_self, Nat.zero_xor, Nat.xor_zero] at h2
  exact h2.symm
theorem bitC_inj {a b : Nat} (ha : a < 4294967296) (hb : b < 4294967296) (h : bitC a = bitC b) : a = b := by
  apply xor_zero
  apply bitC_zero (xor32_lt ha hb)
  rw [bitC_xor, h, Nat.xor_self]
theorem iterC_lt (k : Nat) : ∀ {w : Nat}, w < 4294967296 → iterC k w < 4294967296 := by
  induction k with
  | zero => intro w h; exact h
  | succ k ih => intro w h; exact ih (bitC_lt h)
theorem iterC_xor (k : Nat) : ∀ a b : Nat, iterC k (a ^^^ b) = iterC k a ^^^ iterC k b := by
  induction k with
  | zero => intro a b; rfl
  | succ k ih => intro a b; simp only [iterC]; rw [bitC_xor, ih]
theorem iterC_inj (k : Nat) : ∀ {a b : Nat}, a < 4294967296 → b < 4294967296 → iterC k a = iterC k b → a = b := by
  induction k with
  | zero => intro a b _ _ h; exact h
  | succ k ih => intro a b ha hb h; exact bitC_inj ha hb (ih (bitC_lt ha) (bitC_lt hb) h)
theorem iterC_pow (k v : Nat) : iterC k (2 ^ k * v) = v := by
  induction k with
  | zero => simp [iterC]
  | succ k ih =>
    have : bitC (2 ^ (k + 1) * v) = 2 ^ k * v := by
      unfold bitC
      rw [Nat.pow_succ, Nat.mul_comm (2 ^ k) 2, Nat.mul_assoc, if_neg (by omega)]
      omega
    rw [iterC, this, ih]
theorem iterC_snoc (k : Nat) : ∀ w, iterC (k + 1) w = bitC (iterC k w) := by
  induction k with
  | zero => intro w; rfl
  | succ k ih => intro w; rw [iterC, ih, iterC]

theorem wordC_lt {w : Nat} (h : w < 4294967296) : wordC w < 4294967296 := iterC_lt 8 h
theorem wordC_xor (a b : Nat) : wordC (a ^^^ b) = wordC a ^^^ wordC b := iterC_xor 8 a b
theorem wordC_inj {a b : Nat} (ha : a < 4294967296) (hb : b < 4294967296) (h : wordC a = wordC b) : a = b := iterC_inj 8 ha hb h
theorem wordC_up (v : Nat) : wordC (256 * v) = v := iterC_pow 8 v

theorem tabC_at {b : Nat} (h : b < 256) : tabC.getD b 0 = wordC b := by
  unfold tabC
  simp [List.getElem?_range h]
theorem tabC_tab : Tab tabC := by
  refine ⟨by simp [tabC], fun x hx => ?_⟩
  simp only [tabC, List.mem_map, List.mem_range] at hx
  obtain ⟨b, hb, rfl⟩ := hx
  exact wordC_lt (by omega)
theorem Tab.getD {t : List Nat} (h : Tab t) (k : Nat) : t.getD k 0 < 4294967296 := by
  rcases Nat.lt_or_ge k t.length with hk | hk
  · rw [List.getD_eq_getElem?_getD, List.getElem?_eq_getElem hk]; exact h.2 _ (List.getElem_mem hk)
  · rw [List.getD_eq_getElem?_getD, List.getElem?_eq_none hk]; simp
theorem byte_lt (x : UInt8) : x.toNat < 256 := UInt8.toNat_lt x
theorem stepC_lt {t : List Nat} (h : Tab t) (s : Nat) (x : UInt8) (hs : s < 4294967296) : stepC t s x < 4294967296 := xor32_lt (h.getD _) (by omega)
theorem runC_lt {t : List Nat} (h : Tab t) : ∀ (l : List UInt8) (s : Nat), s < 4294967296 → runC t s l < 4294967296 := by
  intro l
  induction l with
  | nil => intro s hs; exact hs
  | cons x l ih => intro s hs; exact ih _ (stepC_lt h s x hs)
theorem notC_lt (s : Nat) : notC s < 4294967296 := by unfold notC; omega
theorem onC_lt (t : List Nat) (s : Nat) (l : List UInt8) : onC t s l < 4294967296 := notC_lt _
theorem sumC_lt (l : List UInt8) : sumC l < 4294967296 := onC_lt _ _ _
theorem notC_notC {s : Nat} (h : s < 4294967296) : notC (notC s) = s := by unfold notC; omega
theorem notC_inj {a b : Nat} (ha : a < 4294967296) (hb : b < 4294967296) (h : notC a = notC b) : a = b := by unfold notC at h; omega
theorem runC_nil (t : List Nat) (s : Nat) : runC t s [] = s := rfl
theorem runC_cons (t : List Nat) (s : Nat) (x : UInt8) (l : List UInt8) : runC t s (x :: l) = runC t (stepC t s x) l := rfl
theorem runC_app (t : List Nat) (s : Nat) (l m : List UInt8) : runC t s (l ++ m) = runC t (runC t s l) m := by unfold runC; rw [List.foldl_append]
theorem runC_snoc (t : List Nat) (s : Nat) (l : List UInt8) (x : UInt8) : runC t s (l ++ [x]) = stepC t (runC t s l) x := by rw [runC_app]; rfl
theorem onC_nil (t : List Nat) (s : Nat) (hs : s < 4294967296) : onC t s [] = s := by unfold onC; rw [runC_nil, notC_notC hs]
theorem onC_app {t : List Nat} (h : Tab t) (s : Nat) (l m : List UInt8) : onC t s (l ++ m) = onC t (onC t s l) m := by
  unfold onC
  rw [runC_app, notC_notC (runC_lt h _ _ (notC_lt s))]

theorem byte_parts (s : Nat) : s = s % 256 ^^^ 256 * (s / 256) := by
  apply Nat.eq_of_testBit_eq
  intro j
  have h1 : (s % 256).testBit j = (decide (j < 8) && s.testBit j) := Nat.testBit_mod_two_pow s 8 j
  have h2 : (256 * (s / 256)).testBit j = (decide (j ≥ 8) && (s / 256).testBit (j - 8)) := Nat.testBit_two_pow_mul (i := 8) (a := s / 256) (j := j)
  have h3 : (s / 256).testBit (j - 8) = s.testBit (8 + (j - 8)) := Nat.testBit_div_two_pow s (j - 8) (n := 8) |>.trans (by rw [Nat.add_comm])
  rw [Nat.testBit_xor, h1, h2, h3]
  by_cases hj : j < 8
  · simp [hj, show ¬ 8 ≤ j by omega]
  · have : 8 + (j - 8) = j := by omega
    simp [hj, show 8 ≤ j by omega, this]
/-- A step by the table is eight steps of the whole state. -/
theorem stepC_word (s : Nat) (x : UInt8) : stepC tabC s x = wordC (s ^^^ x.toNat) := by
  unfold stepC
  rw [tabC_at (xor8_lt (Nat.mod_lt _ (by omega)) (byte_lt x))]
  have h : s ^^^ x.toNat = (s % 256 ^^^ x.toNat) ^^^ 256 * (s / 256) := by
    have h0 : s ^^^ x.toNat = (s % 256 ^^^ 256 * (s / 256)) ^^^ x.toNat := by rw [← byte_parts]
    rw [h0, Nat.xor_assoc, Nat.xor_comm (256 * (s / 256)), ← Nat.xor_assoc]
  rw [h, wordC_xor (s % 256 ^^^ x.toNat), wordC_up]
theorem byte32 (x : UInt8) : x.toNat < 4294967296 := by have := byte_lt x; omega
theorem stepC_inj {s r : Nat} (x : UInt8) (hs : s < 4294967296) (hr : r < 4294967296) (h : stepC tabC s x = stepC tabC r x) : s = r := by
  rw [stepC_word, stepC_word] at h
  have h2 := wordC_inj (xor32_lt hs (byte32 x)) (xor32_lt hr (byte32 x)) h
  apply xor_zero
  rw [← xor_mid s r x.toNat, h2, Nat.xor_self]
theorem stepC_byte {s : Nat} {x y : UInt8} (hs : s < 4294967296) (h : stepC tabC s x = stepC tabC s y) : x = y := by
  rw [stepC_word, stepC_word] at h
  have h2 := wordC_inj (xor32_lt hs (byte32 x)) (xor32_lt hs (byte32 y)) h
  apply UInt8.toNat_inj.1
  apply xor_zero
  rw [← xor_mid x.toNat y.toNat s, Nat.xor_comm x.toNat, Nat.xor_comm y.toNat, h2, Nat.xor_self]
theorem runC_inj (l : List UInt8) : ∀ {s r : Nat}, s < 4294967296 → r < 4294967296 → runC tabC s l = runC tabC r l → s = r := by
  induction l with
  | nil => intro s r _ _ h; exact h
  | cons x l ih => intro s r hs hr h; exact stepC_inj x hs hr (ih (stepC_lt tabC_tab s x hs) (stepC_lt tabC_tab r x hr) h)

/-- Bytes as a number, the first one lowest. -/
def valC : List UInt8 → Nat
  | [] => 0
  | x :: l => x.toNat + 256 * valC l
theorem valC_lt : ∀ l : List UInt8, valC l < 256 ^ l.length := by
  intro l
  induction l with
  | nil => simp [valC]
  | cons x l ih =>
    have := byte_lt x
    simp only [valC, List.length_cons, Nat.pow_succ]
    omega
theorem valC_inj : ∀ {l m : List UInt8}, l.length = m.length → valC l = valC m → l = m := by
  intro l
  induction l with
  | nil => intro m h _; cases m with
    | nil => rfl
    | cons _ _ => simp at h
  | cons x l ih =>
    intro m h h2
    cases m with
    | nil => simp at h
    | cons y m =>
      simp only [valC] at h2
      have := byte_lt x
      have := byte_lt y
      rw [ih (by simpa using h) (by omega), UInt8.toNat_inj.1 (show x.toNat = y.toNat by omega)]
def manyC : Nat → Nat → Nat
  | 0, w => w
  | k + 1, w => manyC k (wordC w)
theorem manyC_inj (k : Nat) : ∀ {a b : Nat}, a < 4294967296 → b < 4294967296 → manyC k a = manyC k b → a = b := by
  induction k with
  | zero => intro a b _ _ h; exact h
  | succ k ih => intro a b ha hb h; exact wordC_inj ha hb (ih (wordC_lt ha) (wordC_lt hb) h)
theorem byte_join (x v : Nat) (hx : x < 256) : x + 256 * v = x ^^^ 256 * v := by
  have h := byte_parts (x + 256 * v)
  rw [show (x + 256 * v) % 256 = x by omega, show (x + 256 * v) / 256 = v by omega] at h
  exact h
theorem runC_many : ∀ (l : List UInt8) (s : Nat), runC tabC s l = manyC l.length (s ^^^ valC l) := by
  intro l
  induction l with
  | nil => intro s; simp [runC, manyC, valC]
  | cons x l ih =>
    intro s
    rw [runC_cons, ih, stepC_word, List.length_cons, manyC, valC, byte_join _ _ (byte_lt x), ← Nat.xor_assoc, wordC_xor (s ^^^ x.toNat), wordC_up]
theorem val32 {l : List UInt8} (h : l.length ≤ 4) : valC l < 4294967296 := by
  have h1 := valC_lt l
  have h2 : 256 ^ l.length ≤ 256 ^ 4 := Nat.pow_le_pow_right (by omega) h
  have h3 : (256 : Nat) ^ 4 = 4294967296 := by decide
  omega
theorem runC_four {l m : List UInt8} {s : Nat} (hs : s < 4294967296) (hl : l.length = m.length) (h4 : l.length ≤ 4) (h : runC tabC s l = runC tabC s m) : l = m := by
  rw [runC_many, runC_many, hl] at h
  have h2 := manyC_inj _ (xor32_lt hs (val32 h4)) (xor32_lt hs (val32 (by omega))) h
  apply valC_inj hl
  apply xor_zero
  rw [← xor_mid (valC l) (valC m) s, Nat.xor_comm (valC l), Nat.xor_comm (valC m), h2, Nat.xor_self]
/-- Rows that differ within four places alone have unlike sums. -/
theorem sumC_four {p l m r : List UInt8} (hl : l.length = m.length) (h4 : l.length ≤ 4) (h : sumC (p ++ l ++ r) = sumC (p ++ m ++ r)) : l = m := by
  have h1 := notC_inj (runC_lt tabC_tab _ _ (notC_lt 0)) (runC_lt tabC_tab _ _ (notC_lt 0)) h
  rw [runC_app, runC_app, runC_app, runC_app] at h1
  have hp := runC_lt tabC_tab p _ (notC_lt 0)
  exact runC_four hp hl h4 (runC_inj r (runC_lt tabC_tab _ _ hp) (runC_lt tabC_tab _ _ hp) h1)

/-! Sums go with exclusive or. -/
def mixC : List UInt8 → List UInt8 → List UInt8 → List UInt8
  | x :: a, y :: b, z :: c => (x ^^^ y ^^^ z) :: mixC a b c
  | _, _, _ => []
theorem stepC_mix (s r q : Nat) (x y z : UInt8) : stepC tabC (s ^^^ r ^^^ q) (x ^^^ y ^^^ z) = stepC tabC s x ^^^ stepC tabC r y ^^^ stepC tabC q z := by
  simp only [stepC_word, ← wordC_xor, UInt8.toNat_xor]
  congr 1
  ac_rfl
theorem runC_mix : ∀ (a b c : List UInt8) (s r q : Nat), a.length = b.length → b.length = c.length → runC tabC (s ^^^ r ^^^ q) (mixC a b c) = runC tabC s a ^^^ runC tabC r b ^^^ runC tabC q c := by
  intro a
  induction a with
  | nil =>
    intro b c s r q h1 h2
    obtain rfl : b = [] := List.eq_nil_of_length_eq_zero (by simpa using h1.symm)
    obtain rfl : c = [] := List.eq_nil_of_length_eq_zero (by simpa using h2.symm)
    rfl
  | cons x a ih =>
    intro b c s r q h1 h2
    cases b with
    | nil => simp at h1
    | cons y b =>
      cases c with
      | nil => simp at h2
      | cons z c =>
        simp only [mixC, runC_cons]
        rw [stepC_mix]
        exact ih b c _ _ _ (by simpa using h1) (by simpa using h2)
theorem notC_xor {s : Nat} (h : s < 4294967296) : notC s = s ^^^ 4294967295 := by
  have h1 : s ^^^ 4294967295 < 4294967296 := xor32_lt h (by omega)
  apply Nat.eq_of_testBit_eq
  intro j
  unfold notC
  rw [Nat.testBit_xor, show 4294967295 - s = 2 ^ 32 - (s + 1) by omega, Nat.testBit_two_pow_sub_succ h, show (4294967295 : Nat) = 2 ^ 32 - 1 from rfl, Nat.testBit_two_pow_sub_one]
  by_cases hj : j < 32
  · simp [hj]
  · have : s.testBit j = false := Nat.testBit_lt_two_pow (Nat.lt_of_lt_of_le (show s < 2 ^ 32 from h) (Nat.pow_le_pow_right (n := 2) (by decide) (show 32 ≤ j by omega)))
    simp [hj, this]
theorem sumC_mix (a b c : List UInt8) (h1 : a.length = b.length) (h2 : b.length = c.length) : sumC a ^^^ sumC b ^^^ sumC c = sumC (mixC a b c) := by
  have h := runC_mix a b c (notC 0) (notC 0) (notC 0) h1 h2
  rw [Nat.xor_self, Nat.zero_xor] at h
  unfold sumC onC
  rw [h]
  have k : ∀ l, runC tabC (notC 0) l < 4294967296 := fun l => runC_lt tabC_tab l _ (notC_lt 0)
  rw [notC_xor (k a), notC_xor (k b), notC_xor (k c), notC_xor (xor32_lt (xor32_lt (k a) (k b)) (k c)), xor_mid, ← Nat.xor_assoc]
theorem mixC_len (a b c : List UInt8) (h1 : a.length = b.length) (h2 : b.length = c.length) : (mixC a b c).length = a.length := by
  induction a generalizing b c with
  | nil => cases b <;> cases c <;> rfl
  | cons x a ih =>
    cases b with
    | nil => simp at h1
    | cons y b =>
      cases c with
      | nil => simp at h2
      | cons z c => simp only [mixC, List.length_cons]; rw [ih b c (by simpa using h1) (by simpa using h2)]
end Go.Proofs.YtknagdbhhfelnaaDoor

/-
  Bytes changed within four places: their sum is the same where nothing was changed, and there alone; three rows xor each other, byte by byte. No program is named here.
-/
namespace Go.Proofs.YtknagdbhhfelnaaDoor
set_option maxRecDepth 100000

/-- The i-th byte of a number. -/
def dB (n i : Nat) : UInt8 := UInt8.ofNat (n / 256 ^ i % 256)
/-- The row, its bytes from k on changed by the first i bytes of n. -/
def yC (a : List UInt8) (k n : Nat) : Nat → List UInt8
  | 0 => a
  | i + 1 => (yC a k n i).set (k + i) ((yC a k n i).getD (k + i) 0 ^^^ dB n i)
/-- Is one of these not 0? -/
def chC (n : Nat) : Nat → Bool
  | 0 => false
  | i + 1 => chC n i || dB n i != 0

theorem yC_len (a : List UInt8) (k n i : Nat) : (yC a k n i).length = a.length := by
  induction i with
  | zero => rfl
  | succ i ih => simp [yC, ih]
theorem yC_far (a : List UInt8) (k n i j : Nat) (h : j < k ∨ k + i ≤ j) : (yC a k n i)[j]? = a[j]? := by
  induction i with
  | zero => rfl
  | succ i ih =>
    rw [yC, List.getElem?_set_ne (by omega)]
    exact ih (by omega)
theorem yC_at (a : List UInt8) (k n i : Nat) : (yC a k n i).getD (k + i) 0 = a.getD (k + i) 0 := by
  rw [List.getD_eq_getElem?_getD, List.getD_eq_getElem?_getD, yC_far a k n i (k + i) (.inr (Nat.le_refl _))]
theorem xor8_zero (x d : UInt8) (h : x ^^^ d = x) : d = 0 := by
  have h2 : x ^^^ (x ^^^ d) = x ^^^ x := by rw [h]
  rw [← UInt8.xor_assoc, UInt8.xor_self, UInt8.zero_xor] at h2
  exact h2
theorem yC_eq (a : List UInt8) (k n : Nat) : ∀ i, k + i ≤ a.length → (yC a k n i = a ↔ chC n i = false) := by
  intro i
  induction i with
  | zero => intro _; simp [yC, chC]
  | succ i ih =>
    intro hi
    have ih' := ih (by omega)
    have hlt : k + i < (yC a k n i).length := by rw [yC_len]; omega
    have hat := yC_at a k n i
    constructor
    · intro h
      have hi1 : (yC a k n (i + 1))[k + i]? = a[k + i]? := by rw [h]
      rw [yC, List.getElem?_set_self hlt, hat] at hi1
      have hka : k + i < a.length := by omega
      rw [List.getElem?_eq_getElem hka, List.getD_eq_getElem?_getD, List.getElem?_eq_getElem hka] at hi1
      have hd : dB n i = 0 := xor8_zero _ _ (by simpa using hi1)
      have hy : yC a k n i = a := by
        apply List.ext_getElem?
        intro j
        by_cases hj : j = k + i
        · subst hj; exact yC_far a k n i _ (.inr (Nat.le_refl _))
        · have : (yC a k n (i + 1))[j]? = a[j]? := by rw [h]
          rw [yC, List.getElem?_set_ne (by omega)] at this
          exact this
      rw [chC, ih'.1 hy, hd]
      rfl
    · intro h
      rw [chC, Bool.or_eq_false_iff] at h
      have hy := ih'.2 h.1
      have hd : dB n i = 0 := by simpa using h.2
      rw [yC, hd, UInt8.xor_zero, hy]
      have hka : k + i < a.length := by omega
      rw [List.getD_eq_getElem?_getD, List.getElem?_eq_getElem hka]
      exact List.set_getElem_self hka
theorem cut3 (l : List UInt8) (k i : Nat) : l = l.take k ++ (l.drop k).take i ++ l.drop (k + i) := by
  rw [List.append_assoc, ← List.drop_drop, List.take_append_drop, List.take_append_drop]
theorem yC_tells (a : List UInt8) (k n i : Nat) (hi : i ≤ 4) (hk : k + i ≤ a.length) : (sumC (yC a k n i) = sumC a ↔ chC n i = false) := by
  rw [← yC_eq a k n i hk]
  constructor
  · intro h
    have h1 : (yC a k n i).take k = a.take k := by
      apply List.ext_getElem?
      intro j
      rw [List.getElem?_take, List.getElem?_take]
      split
      · exact yC_far a k n i j (.inl (by omega))
      · rfl
    have h2 : (yC a k n i).drop (k + i) = a.drop (k + i) := by
      apply List.ext_getElem?
      intro j
      rw [List.getElem?_drop, List.getElem?_drop]
      exact yC_far a k n i _ (.inr (by omega))
    have h3 := cut3 (yC a k n i) k i
    have h4 := cut3 a k i
    rw [h1, h2] at h3
    have h5 : ((yC a k n i).drop k).take i = (a.drop k).take i := by
      apply sumC_four (p := a.take k) (r := a.drop (k + i))
      · rw [List.length_take, List.length_take, List.length_drop, List.length_drop, yC_len]
      · rw [List.length_take]; omega
      · rw [← h3, ← h4]; exact h
    rw [h3, h5, ← h4]
  · intro h
    rw [h]

theorem mixC_snoc : ∀ (a b c : List UInt8) (x y z : UInt8), a.length = b.length → b.length = c.length → mixC (a ++ [x]) (b ++ [y]) (c ++ [z]) = mixC a b c ++ [x ^^^ y ^^^ z] := by
  intro a
  induction a with
  | nil =>
    intro b c x y z h1 h2
    obtain rfl : b = [] := List.eq_nil_of_length_eq_zero (by simpa using h1.symm)
    obtain rfl : c = [] := List.eq_nil_of_length_eq_zero (by simpa using h2.symm)
    rfl
  | cons u a ih =>
    intro b c x y z h1 h2
    cases b with
    | nil => simp at h1
    | cons v b =>
      cases c with
      | nil => simp at h2
      | cons t c =>
        simp only [List.cons_append, mixC]
        rw [ih b c x y z (by simpa using h1) (by simpa using h2)]
theorem mixC_take (a b c : List UInt8) (k : Nat) (ha : k < a.length) (hb : k < b.length) (hc : k < c.length) :
    mixC (a.take (k + 1)) (b.take (k + 1)) (c.take (k + 1)) = mixC (a.take k) (b.take k) (c.take k) ++ [a[k] ^^^ b[k] ^^^ c[k]] := by
  rw [List.take_succ_eq_append_getElem ha, List.take_succ_eq_append_getElem hb, List.take_succ_eq_append_getElem hc, mixC_snoc]
  · rw [List.length_take, List.length_take]; omega
  · rw [List.length_take, List.length_take]; omega
end Go.Proofs.YtknagdbhhfelnaaDoor

/-
  Package crc's table, and the document's own, by their contracts. Conditions: none.
-/
namespace Go.Proofs.YtknagdbhhfelnaaDoor
open Go.RowKit
set_option maxRecDepth 100000

/-! The walk's words. -/
theorem c_and1 (x : Nat) (hx : x < 4294967296) : bits .and .u32 (x : Int) 1 = ((x % 2 : Nat) : Int) := by
  have h := u32_and_nat x 1 hx (by omega)
  rw [show (x &&& 1) = x % 2 from by rw [show 1 = 2 ^ 1 - 1 from rfl, Nat.and_two_pow_sub_one_eq_mod]] at h
  exact h
theorem c_poly (x : Nat) (hx : x < 4294967296) : bits .xor .u32 ((x : Int) / 2) 2197175160 = ((x / 2 ^^^ 2197175160 : Nat) : Int) := by
  have h := u32_xor_nat (x / 2) 2197175160 (by omega) (by omega)
  rw [show ((x / 2 : Nat) : Int) = (x : Int) / 2 by omega] at h
  exact h

def CWordRel (x : Nat) (s i : Value) : Prop := ∃ k : Nat, k ≤ 8 ∧ i = .int .i64 (k : Int) ∧ s = .int .u32 (iterC k x : Int)

set_option maxHeartbeats 1000000 in
theorem crcword_any (x : Nat) (w : World) (hx : x < 4294967296) :
    Calls Tryd.prog 89 #[.int .u32 (x : Int)] w fun e w' => e = .returned (.int .u32 (wordC x : Int)) ∧ w = w' := by
  have HX := Lib.hid hx
  clear hx
  go_enter Tryd.func89, Tryd.ntmps89
  go_wp2_with fail
  go_loop [0, 4] (fun s i => CWordRel x s i) (fun _ i => 8 - (intOf i).toNat)
  case atStart => exact ⟨0, by omega, rfl, rfl⟩
  case round =>
    obtain ⟨k, hk, rfl, rfl⟩ := hrel
    have HY := Lib.hid (iterC_lt k HX.out)
    have HS := Lib.hid (iterC_snoc k x)
    generalize hy : iterC k x = y at *
    have HA := c_and1 y HY.out
    have HP := Lib.hid (c_poly y HY.out)
    by_cases h8 : k = 8
    · subst h8
      go_wp2_with fail
      go_ret
      exact ⟨ret_int (by rw [← hy]; rfl), rfl⟩
    · have h8' : (k : Int) < 8 := by omega
      rcases Nat.mod_two_eq_zero_or_one y with ho | ho
      · rw [ho] at HA
        have ht : bitC y = y / 2 := by unfold bitC; rw [if_neg (by omega)]
        rw [ht] at HS
        go_wp2_with fail
        go_round
        case rel => exact ⟨k + 1, by omega, by go_num, by rw [HS.out]; go_num⟩
        case measure => simp [intOf]; omega
      · rw [ho] at HA
        have ht : bitC y = y / 2 ^^^ 2197175160 := by unfold bitC; rw [if_pos ho]
        rw [ht] at HS
        go_wp2_with fail
        go_round
        case rel => exact ⟨k + 1, by omega, by go_num, by rw [HS.out, HP.out]⟩
        case measure => simp [intOf]; omega

/-! Tables by value. -/
def tabV (t : List Nat) : Array Value := (t.map fun (n : Nat) => Value.int .u32 (n : Int)).toArray
theorem tabV_size (t : List Nat) : (tabV t).size = t.length := by simp [tabV]
theorem tabV_one (t : List Nat) : (tabV t).all (·.oneCell') = true := by simp [tabV, Value.oneCell']
theorem tabInfo : (Tryd.prog.info? 123).map (fun i => (i.zero, i.size)) = some (some (.agg (tabV (List.replicate 256 0))), 256) := by kernel_rfl
theorem tabZero : ∀ w, (zeroValue 123).run Tryd.prog w = .ok (.agg (tabV (List.replicate 256 0))) w := (zero_of_info tabInfo).1
theorem tabSize : (Tryd.prog.info? 123).map (·.size) = some 256 := (zero_of_info tabInfo).2

/-- Block g is this table. -/
def ATab (w : World) (g : Nat) (t : List Nat) : Prop := w.heap[g]? = some (.cells (tabV t) 123)
theorem ATab.new (w : World) (t : List Nat) : ATab (w.alloc (.cells (tabV t) 123)) w.heap.size t := heap_alloc_new w _
theorem ATab.lt {w : World} {g : Nat} {t : List Nat} (h : ATab w g t) : g < w.heap.size := (Array.getElem?_eq_some_iff.1 h).1
theorem ATab.block {w w' : World} {g : Nat} {t : List Nat} (h : ATab w g t) (hb : w'.heap[g]? = w.heap[g]?) : ATab w' g t := hb.trans h
theorem ATab.below {w w' : World} {g : Nat} {t : List Nat} (h : ATab w g t) (hb : Below w.heap.size w w') : ATab w' g t := h.block (hb.block g h.lt)
theorem ATab.alloc {w : World} {g : Nat} {t : List Nat} (h : ATab w g t) (o : Obj) : ATab (w.alloc o) g t := h.below (below_new w o)
theorem ATab.cell {w : World} {g : Nat} {t : List Nat} (h : ATab w g t) (k : Nat) (hk : k < t.length) : w.cell? ⟨g, k, none⟩ = some (.int .u32 (t.getD k 0 : Int)) := by
  rw [cell_of_row _ _ _ _ _ _ h]
  simp [tabV, hk]
theorem ATab.frozen {w : World} {g : Nat} {t : List Nat} (h : ATab w g t) (k : Nat) : w.frozen? ⟨g, k, none⟩ = false := by
  unfold ATab at h
  simp [World.frozen?, h]
theorem ATab.set {w : World} {g : Nat} {t : List Nat} (h : ATab w g t) (k x : Nat) : ATab (w.setCell ⟨g, k, none⟩ (.int .u32 (x : Int))) g (t.set k x) := by
  unfold ATab at h ⊢
  simp [World.setCell, Array.getElem?_modify, h, List.map_set, tabV]
theorem ATab.notByte {w : World} {g : Nat} {t : List Nat} (h : ATab w g t) : ¬ ∃ off u, w.cell? ⟨g, off, none⟩ = some (.int .u8 u) := by
  rintro ⟨off, u, hc⟩
  rw [cell_of_row _ _ _ _ _ _ h] at hc
  simp [tabV] at hc
/-- The whole table out of its block, as the walk meets it. -/
theorem ATab.load {w : World} {g : Nat} {t : List Nat} (h : ATab w g t) (ht : t.length = 256) : (loadCellsFrom ⟨g, 0, none⟩ 0 256 #[]).run Tryd.prog w = .ok (tabV t) w := by
  have := run_loadCells_list (P := Tryd.prog) w ⟨g, 0, none⟩ (tabV t).toList (fun j v hv => by
    rw [plainAdd, Nat.zero_add, cell_of_row _ _ j _ _ _ h]
    simpa using hv)
  simpa [loadCells, tabV_size, ht] using this
theorem ATab.loadVar {w : World} {g : Nat} {t : List Nat} (h : ATab w g t) (ht : t.length = 256) : (loadVar 123 ⟨g, 0, none⟩).run Tryd.prog w = .ok (.agg (tabV t)) w :=
  run_loadVar_row w g _ _ (tabV t) (0, 0) _ h Tryd.underlying123 rfl (by rw [tabV_size, ht]; exact tabSize)
/-- A whole table into its block. -/
theorem ATab.store {w : World} {g : Nat} {t u : List Nat} (h : ATab w g t) (ht : t.length = 256) (hu : u.length = 256) :
    ∃ w', (storeCells ⟨g, 0, none⟩ (tabV u).toList 0).run Tryd.prog w = .ok () w' ∧ ATab w' g u ∧ (∀ B a, Below B a w → B ≤ g → Below B a w') ∧ w'.heap.size = w.heap.size := by
  have hr := run_storeCells_from (P := Tryd.prog) g _ (tabV u).toList 0 _ w h (by simp [tabV_size, ht, hu]) (fun v hv => (Array.all_eq_true_iff_forall_mem.1 (tabV_one u)) v (by simpa using hv))
  have hs : (w.setRow g (tabV u)).heap.size = w.heap.size := by simp [World.setRow]
  refine ⟨w.setRow g (tabV u), ?_, setRow_heap w g _ _ _ _ h, fun B a hb hB => ⟨hb.os, hb.tape, hb.output, by rw [hs]; exact hb.size, fun k hk => ?_⟩, hs⟩
  · rw [hr]
    simp
  · rw [← hb.block k hk]
    simp only [World.setRow]
    rw [Array.getElem?_modify, if_neg (by omega)]

section
variable {ops : Array Oper} {rest : List Oper} {o : Oper} {a : Act} {w : World} {K : Act → World → Prop} {Q : Exit → Act → World → Prop}
/-- The operation that reads a whole table. -/
theorem wp_loadTab (x : Operand) (ho : o.op = .load 123 x) (g : Nat) (hx : a.eval x = .pointer (some ⟨g, 0, none⟩)) (t : List Nat) (h : ATab w g t) (ht : t.length = 256)
    (hK : K (a.put o.dst (.agg (tabV t))) w) : o.wp Tryd.prog a w K Q :=
  wp_load_row 123 x ho g hx 123 (tabV t) (0, 0) _ h Tryd.underlying123 rfl (by rw [tabV_size, ht]; exact tabSize) hK
/-- .. as a region that draws its order asks for it. -/
theorem exec_loadTab {u : World} (x : Operand) (ho : o.op = .load 123 x) (g : Nat) (hx : a.eval x = .pointer (some ⟨g, 0, none⟩)) {t : List Nat} (h : ATab u g t) (ht : t.length = 256) :
    (execOp a.eval o).run Tryd.prog u = .ok (.value (.agg (tabV t))) u := by
  unfold execOp
  simp only [ho, hx, Instr.loadAt, Instr.sureAddr, Sem.run_bind, Sem.run_pure, Result.andThen_ok, h.loadVar ht]
theorem wpList_loadTab (hgd : o.guard = none) (x : Operand) (ho : o.op = .load 123 x) (g : Nat) (hx : a.eval x = .pointer (some ⟨g, 0, none⟩)) (t : List Nat) (h : ATab w g t) (ht : t.length = 256)
    (hK : wpList Tryd.prog ops Q rest (a.put o.dst (.agg (tabV t))) w) : wpList Tryd.prog ops Q (o :: rest) a w :=
  wpList_plain hgd fun _ hk => wp_loadTab x ho g hx t h ht (hk _ _ hK)
/-- The operation that writes a whole table. -/
theorem wpList_storeTab (hgd : o.guard = none) (x y : Operand) (ho : o.op = .store 123 x y) (g : Nat) (hx : a.eval x = .pointer (some ⟨g, 0, none⟩)) (u : List Nat) (hy : a.eval y = .agg (tabV u)) (t : List Nat) (h : ATab w g t) (ht : t.length = 256) (hu : u.length = 256)
    (hK : ∀ w', ATab w' g u → (∀ B a, Below B a w → B ≤ g → Below B a w') → (∀ k, k ≠ g → w'.heap[k]? = w.heap[k]?) → w'.heap.size = w.heap.size → wpList Tryd.prog ops Q rest (a.put o.dst undef) w') : wpList Tryd.prog ops Q (o :: rest) a w := by
  have hs : (w.setRow g (tabV u)).heap.size = w.heap.size := by simp [World.setRow]
  have hne : ∀ k, k ≠ g → (w.setRow g (tabV u)).heap[k]? = w.heap[k]? := fun k hk => by
    simp only [World.setRow]
    rw [Array.getElem?_modify, if_neg (by omega)]
  exact wpList_store_row hgd 123 x y ho g (tabV u) hx hy 123 (tabV t) h (by rw [tabV_size, hu]; exact tabSize) (by rw [tabV_size, tabV_size, ht, hu]) (tabV_one u)
    (hK _ (setRow_heap w g _ _ _ _ h) (fun B a hb hB => ⟨hb.os, hb.tape, hb.output, by rw [hs]; exact hb.size, fun k hk => by rw [← hb.block k hk]; exact hne k (by omega)⟩) hne hs)
/-- .. into a variable that was just made. -/
theorem wpList_storeNew {w1 : World} (t : List Nat) (ht : t.length = 256) (u : List Nat) (hu : u.length = 256) (hgd : o.guard = none) (x y : Operand) (ho : o.op = .store 123 x y) (hx : a.eval x = .pointer (some ⟨w1.heap.size, 0, none⟩)) (hy : a.eval y = .agg (tabV u))
    (hK : ∀ w', ATab w' w1.heap.size u → Below w1.heap.size w1 w' → w1.heap.size < w'.heap.size → wpList Tryd.prog ops Q rest (a.put o.dst undef) w') : wpList Tryd.prog ops Q (o :: rest) a (w1.alloc (.cells (tabV t) 123)) :=
  wpList_storeTab hgd x y ho w1.heap.size hx u hy t (ATab.new w1 t) ht hu fun w' h1 h2 _ _ => hK w' h1 (h2 _ _ (below_new w1 _) (Nat.le_refl _)) h1.lt
/-- A table as a call's answer. -/
theorem ret_tab {fn : Func} {p : Tmp} {Post : Ending → World → Prop} (g : Nat) (hd : a.defers = []) (h : fn.results = #[.cell p 123]) (hp : a.tmps.getD p undef = .pointer (some ⟨g, 0, none⟩)) {t : List Nat} (hg : ATab w g t) (ht : t.length = 256)
    (hpost : Post (.returned (.agg (tabV t))) w) : bodyPost Tryd.prog fn Post .ret a w :=
  bodyPost_ret (v := .agg (tabV t)) (results_cell_row h _ w g _ _ (0, 0) _ hp hg Tryd.underlying123 rfl (by rw [tabV_size, ht]; exact tabSize)) hd hpost
end

/-- The table, as far as it has been laid. -/
def tabTo (k : Nat) : List Nat := tabC.take k ++ List.replicate (256 - k) 0
theorem tabTo_len (k : Nat) (hk : k ≤ 256) : (tabTo k).length = 256 := by
  unfold tabTo
  rw [List.length_append, List.length_take, List.length_replicate, tabC_tab.1]
  omega
theorem to_set (tc : List Nat) (hl : tc.length = 256) (k x : Nat) (hk : k < 256) (hg : tc.getD k 0 = x) : (tc.take k ++ List.replicate (256 - k) 0).set k x = tc.take (k + 1) ++ List.replicate (256 - (k + 1)) 0 := by
  have hkl : k < tc.length := by omega
  rw [List.getD_eq_getElem?_getD, List.getElem?_eq_getElem hkl] at hg
  have hg' : tc[k] = x := hg
  rw [List.set_append_right _ _ (by rw [List.length_take]; omega), List.length_take, Nat.min_eq_left (by omega), Nat.sub_self, show 256 - k = (256 - (k + 1)) + 1 by omega, List.replicate_succ, List.set_cons_zero,
    List.take_succ_eq_append_getElem hkl, List.append_assoc, hg']
  rfl
theorem tabTo_set (k : Nat) (hk : k < 256) : (tabTo k).set k (wordC k) = tabTo (k + 1) := to_set tabC tabC_tab.1 k (wordC k) hk (tabC_at hk)
theorem tabTo_all : tabTo 256 = tabC := by
  unfold tabTo
  rw [List.take_of_length_le (by rw [tabC_tab.1]; omega)]
  simp
theorem tabTo_none : List.replicate 256 0 = tabTo 0 := rfl

def TableRel (w : World) (i : Value) (wr : World) : Prop :=
  ∃ k : Nat, k ≤ 256 ∧ i = .int .i64 (k : Int) ∧ ATab wr (w.heap.size + 1) (tabTo k) ∧ ATab wr w.heap.size (tabTo 0) ∧ Below w.heap.size w wr
/-- What a call that answers a table leaves. -/
def Tabled (w : World) (t : List Nat) (e : Ending) (w' : World) : Prop := e = .returned (.agg (tabV t)) ∧ Below w.heap.size w w'

set_option maxRecDepth 100000 in
set_option maxHeartbeats 1000000 in
theorem crctable_any (w : World) : Calls Tryd.prog 75 #[] w (Tabled w tabC) := by
  have Z := tabZero
  rw [tabTo_none] at Z
  have ZS : (tabV (tabTo 0)).size = 256 := by rw [tabV_size, tabTo_len 0 (by omega)]
  have S1 := run_storeCells_new (P := Tryd.prog) (w.alloc (.cells (tabV (tabTo 0)) 123)) 123 (tabV (tabTo 0)) (tabV (tabTo 0)) (by rw [ZS]; exact tabSize) rfl (tabV_one _)
  rw [show (w.alloc (.cells (tabV (tabTo 0)) 123)).heap.size = w.heap.size + 1 by simp] at S1
  have A1 := ((ATab.new w (tabTo 0)).alloc (.cells (tabV (tabTo 0)) 123))
  have A2 := ATab.new (w.alloc (.cells (tabV (tabTo 0)) 123)) (tabTo 0)
  rw [show (w.alloc (.cells (tabV (tabTo 0)) 123)).heap.size = w.heap.size + 1 by simp] at A2
  have HA1 := Lib.hid A1
  have HA2 := Lib.hid A2
  clear A1 A2
  go_enter Tryd.func75, Tryd.ntmps75
  go_wp2_with fail
  go_loopw [4] (fun i wr => TableRel w i wr) (fun i _ => 256 - (intOf i).toNat)
  case atStart => exact ⟨0, by omega, rfl, HA2.out, HA1.out, (below_new w _).alloc (by simp) _⟩
  case round =>
    obtain ⟨k, hk, rfl, ha, hr, hbel⟩ := hrel
    clear Z ZS S1 HA1 HA2
    by_cases h : k = 256
    · subst h
      rw [tabTo_all] at ha
      have T0 := Lib.hid (tabTo_len 0 (by omega))
      have TC := Lib.hid tabC_tab.1
      generalize tabC = tc at *
      generalize tabTo 0 = t0 at *
      have HA := Lib.hid ha
      have HR := Lib.hid hr
      have HB := Lib.hid hbel
      clear ha hr hbel
      go_wp2_with (first
        | (refine wpList_loadTab rfl _ rfl _ rfl _ HA.out TC.out ?_)
        | (refine wpList_storeTab rfl _ _ rfl _ rfl _ rfl _ HR.out T0.out TC.out ?_; intro w2 h2 h3 h4 h5))
      exact ret_tab _ rfl rfl rfl h2 TC.out ⟨rfl, h3 _ _ HB.out (Nat.le_refl _)⟩
    · have h8 : (k : Int) < 256 := by omega
      have c1 := ha.cell k (by rw [tabTo_len k hk]; omega)
      have c2 := ha.frozen k
      have HA := Lib.hid (tabTo_set k (by omega) ▸ ha.set k (wordC k))
      have HR := Lib.hid hr
      have HB := Lib.hid hbel
      clear ha hr hbel
      go_wp2_with fail
      refine (crcword_any k _ (by omega)).mono ?_
      rintro e w2 ⟨rfl, rfl⟩
      go_wp2_with fail
      go_roundw
      case rel => exact ⟨k + 1, by omega, by go_num, HA.out, HR.out.block (Below.heap_setCell _ _ _ _ (by simp only; omega)), HB.out.setCell (by simp only; omega) _⟩
      case measure => simp [intOf]; omega

end Go.Proofs.YtknagdbhhfelnaaDoor

/-
  Package crc's sums by their contracts: run, On, Step, Sum. Conditions: words are below 2^32.
-/
namespace Go.Proofs.YtknagdbhhfelnaaDoor
open Go.RowKit
set_option maxRecDepth 100000

/-- What a call that answers a word leaves. -/
def Word32 (w : World) (n : Nat) (e : Ending) (w' : World) : Prop := e = .returned (.int .u32 (n : Int)) ∧ Below w.heap.size w w'

def RunRel (t : List Nat) (s : Nat) (l : List UInt8) (v i : Value) : Prop := ∃ k : Nat, k ≤ l.length ∧ i = .int .i64 (k : Int) ∧ v = .int .u32 (runC t s (l.take k) : Int)

theorem c_low (y : Nat) (x : UInt8) : bits .xor .u8 ((y : Int) % 256) (x.toNat : Int) = ((y % 256 ^^^ x.toNat : Nat) : Int) := by
  rw [show (y : Int) % 256 = ((y % 256 : Nat) : Int) by omega]
  exact u8_xor_nat _ _ (Nat.mod_lt _ (by omega)) (byte_lt x)
theorem c_step (y z : Nat) (hy : y < 4294967296) (hz : z < 4294967296) : bits .xor .u32 (z : Int) ((y : Int) / 256) = ((z ^^^ y / 256 : Nat) : Int) := by
  rw [show (y : Int) / 256 = ((y / 256 : Nat) : Int) by omega]
  exact u32_xor_nat _ _ hz (by omega)
theorem runC_take (t : List Nat) (s : Nat) (l : List UInt8) (k : Nat) (hk : k < l.length) : runC t s (l.take (k + 1)) = stepC t (runC t s (l.take k)) l[k] := by
  rw [List.take_succ_eq_append_getElem hk, runC_snoc]

set_option maxRecDepth 100000 in
set_option maxHeartbeats 1000000 in
theorem crcrun_any (w : World) (t : List Nat) (s : Nat) (v : Value) (l : List UInt8) (ht : Tab t) (hs : s < 4294967296) (hv : Byt w v l) (hlen : l.length ≤ 70368744177664) :
    Calls Tryd.prog 100 #[.agg (tabV t), .int .u32 (s : Int), v] w (Word32 w (runC t s l)) := by
  have HV := Lib.hid (hv.alloc (.cells (tabV t) 123))
  obtain ⟨A, n, c, rfl, N, hnc, hcm⟩ := hv.form
  have HA := Lib.hid (ATab.new w t)
  have HT := Lib.hid ht
  have HS := Lib.hid hs
  have hl : n ≤ 70368744177664 := by have := N.out; omega
  clear hv ht hs hlen
  go_enter Tryd.func100, Tryd.ntmps100
  go_wp2_with fail
  go_loop [1, 11] (fun v i => RunRel t s l v i) (fun _ i => n - (intOf i).toNat)
  case atStart => exact ⟨0, by omega, rfl, rfl⟩
  case round =>
    obtain ⟨k, hk, rfl, rfl⟩ := hrel
    have HY := Lib.hid (runC_lt HT.out (l.take k) s HS.out)
    by_cases hlt : k < l.length
    · obtain ⟨b, off, rfl, hb, hc⟩ := HV.out.at hlt
      have hck := hc k hlt
      have hkn : (k : Int) < (n : Int) := by have := N.out; omega
      have HR := Lib.hid (runC_take t s l k hlt)
      generalize l[k] = x at *
      generalize runC t s (l.take k) = y at *
      have X1 := c_low y x
      have hj : y % 256 ^^^ x.toNat < 256 := xor8_lt (Nat.mod_lt _ (by omega)) (byte_lt x)
      have HC := HA.out.cell (y % 256 ^^^ x.toNat) (by rw [HT.out.1]; exact hj)
      have HZ := Lib.hid (c_step y (t.getD (y % 256 ^^^ x.toNat) 0) HY.out (HT.out.getD _))
      have HF : Hid (stepC t y x = t.getD (y % 256 ^^^ x.toNat) 0 ^^^ y / 256) := rfl
      generalize y % 256 ^^^ x.toNat = j at *
      generalize t.getD j 0 = z at *
      have hj' : (j : Int) < 256 := by omega
      clear hc hb
      go_wp2_with fail
      go_round
      case rel => exact ⟨k + 1, by omega, by go_num, by rw [HR.out, HF.out, HZ.out]⟩
      case measure => simp [intOf]; omega
    · have e : k = l.length := by omega
      have hkn : ¬ (k : Int) < (n : Int) := by have := N.out; omega
      have HE : Hid (runC t s (l.take k) = runC t s l) := by rw [e, List.take_length]; exact rfl
      generalize runC t s (l.take k) = y at *
      go_wp2_with fail
      go_ret
      exact ⟨ret_int (by rw [HE.out]), below_new w _⟩

theorem u32_plain : ¬ IntKind.u32.signed = true := by decide
theorem c_not (s : Nat) (hs : s < 4294967296) : bits .xor .u32 IntKind.u32.max (s : Int) = ((notC s : Nat) : Int) := by
  rw [show IntKind.u32.max = ((4294967295 : Nat) : Int) by decide +kernel, u32_xor_nat _ _ (by omega) hs, notC_xor hs, Nat.xor_comm]

set_option maxHeartbeats 1000000 in
theorem crcon_any (w : World) (t : List Nat) (s : Nat) (v : Value) (l : List UInt8) (ht : Tab t) (hs : s < 4294967296) (hv : Byt w v l) (hlen : l.length ≤ 70368744177664) :
    Calls Tryd.prog 88 #[.agg (tabV t), .int .u32 (s : Int), v] w (Word32 w (onC t s l)) := by
  have HV := Lib.hid (hv.alloc (.cells (tabV t) 123))
  have HA := Lib.hid (ATab.new w t)
  have HT := Lib.hid ht
  have HS := Lib.hid hs
  have HL := Lib.hid hlen
  clear hv ht hs hlen
  have hu := u32_plain
  have C1 := c_not s HS.out
  go_enter Tryd.func88, Tryd.ntmps88
  go_wp2_with (refine wpList_loadTab rfl _ rfl _ rfl _ HA.out HT.out.1 ?_)
  refine (crcrun_any _ t (notC s) v l HT.out (notC_lt s) HV.out HL.out).mono ?_
  rintro e w1 ⟨rfl, hb1⟩
  have C2 := c_not _ (runC_lt HT.out l _ (notC_lt s))
  have HB := Lib.hid ((below_new w _).trans (hb1.mono (by simp)))
  clear hb1
  have HF : Hid (onC t s l = notC (runC t (notC s) l)) := rfl
  generalize runC t (notC s) l = y at *
  go_wp2_with fail
  go_ret
  exact ⟨ret_int (by rw [HF.out]), HB.out⟩

end Go.Proofs.YtknagdbhhfelnaaDoor

/-
  Rows of slices, and package crc's Parts by its contract: the sum of all parts, one behind the other. Conditions: the bytes of a part are fewer than 2^46.
-/
namespace Go.Proofs.YtknagdbhhfelnaaDoor
open Go.RowKit
set_option maxRecDepth 100000

/-- The sum of parts. -/
def partsC (t : List Nat) (ls : List (List UInt8)) : Nat := ls.foldl (onC t) 0
theorem foldl_onC {t : List Nat} (ht : Tab t) : ∀ (ls : List (List UInt8)) (s : Nat), s < 4294967296 → ls.foldl (onC t) s = onC t s ls.flatten := by
  intro ls
  induction ls with
  | nil => intro s hs; exact (onC_nil t s hs).symm
  | cons l ls ih => intro s hs; rw [List.foldl_cons, ih _ (onC_lt _ _ _), List.flatten_cons, onC_app ht]
theorem partsC_is {t : List Nat} (ht : Tab t) (ls : List (List UInt8)) : partsC t ls = onC t 0 ls.flatten := foldl_onC ht ls 0 (by omega)
theorem partsC_lt {t : List Nat} (ht : Tab t) (ls : List (List UInt8)) : partsC t ls < 4294967296 := by rw [partsC_is ht]; exact onC_lt _ _ _
theorem partsC_take (t : List Nat) (ls : List (List UInt8)) (k : Nat) (hk : k < ls.length) : partsC t (ls.take (k + 1)) = onC t (partsC t (ls.take k)) ls[k] := by
  unfold partsC
  rw [List.take_succ_eq_append_getElem hk, List.foldl_append]
  rfl

def ThroughRel (w : World) (t : List Nat) (ls : List (List UInt8)) (s i : Value) (wr : World) : Prop :=
  ∃ k : Nat, k ≤ ls.length ∧ i = .int .i64 (k : Int) ∧ s = .int .u32 (partsC t (ls.take k) : Int) ∧ Below (w.heap.size + 1) (w.alloc (.cells (tabV t) 123)) wr

set_option maxRecDepth 100000 in
set_option maxHeartbeats 1000000 in
theorem crcthrough_any (w : World) (t : List Nat) (v : Value) (vs : List Value) (ls : List (List UInt8)) (ht : Tab t) (hv : Rowz w v vs) (hl : Byts w vs ls) (hlen : ∀ l ∈ ls, l.length ≤ 70368744177664) :
    Calls Tryd.prog 74 #[.agg (tabV t), v] w (Word32 w (partsC t ls)) := by
  have HV := Lib.hid (hv.below (below_new w (.cells (tabV t) 123)))
  have HL := Lib.hid (hl.below (below_new w (.cells (tabV t) 123)))
  obtain ⟨A, n, c, rfl, N, hnc, hcm⟩ := hv.form
  have HA := Lib.hid (ATab.new w t)
  have HT := Lib.hid ht
  have HN := Lib.hid hlen
  have NL : Hid (n = ls.length) := N.out.trans hl.1
  clear hv ht hlen hl
  go_enter Tryd.func74, Tryd.ntmps74
  go_wp2_with fail
  go_loopw [5, 10] (fun s i wr => ThroughRel w t ls s i wr) (fun _ i _ => n - (intOf i).toNat)
  case atStart => exact ⟨0, by omega, rfl, rfl, Below.refl _ _⟩
  case round =>
    obtain ⟨k, hk, rfl, rfl, hbel⟩ := hrel
    have hbel' : Below (w.alloc (.cells (tabV t) 123)).heap.size (w.alloc (.cells (tabV t) 123)) wr := hbel.mono (by simp)
    have HA1 := Lib.hid (HA.out.below hbel')
    have HV1 := Lib.hid (HV.out.below hbel')
    have HL1 := Lib.hid (HL.out.below hbel')
    have HB := Lib.hid hbel
    have HP := Lib.hid (partsC_lt HT.out (ls.take k))
    clear hbel hbel'
    by_cases hlt : k < ls.length
    · have hkv : k < vs.length := by have := HL.out.1; omega
      obtain ⟨b, off, rfl, hb, hc⟩ := HV1.out.at hkv
      have hck := hc k hkv
      have hkn : (k : Int) < (n : Int) := by have := NL.out; omega
      have HR := Lib.hid (partsC_take t ls k hlt)
      have HX := Lib.hid (HL1.out.2 k hkv hlt)
      have HM := Lib.hid (HN.out _ (List.getElem_mem hlt))
      generalize ls[k] = l at *
      generalize vs[k] = x at *
      generalize partsC t (ls.take k) = y at *
      have C0 := Lib.hid (crcon_any wr t y x l HT.out HP.out HX.out HM.out)
      clear hc hb
      go_wp2_with (refine wpList_loadTab rfl _ rfl _ rfl _ HA1.out HT.out.1 ?_)
      refine C0.out.mono ?_
      rintro e w2 ⟨rfl, hb2⟩
      have HB2 := Lib.hid (HB.out.trans (hb2.mono (by have := HB.out.size; simp at this; omega)))
      clear hb2
      go_wp2_with fail
      go_roundw
      case rel => exact ⟨k + 1, by omega, by go_num, by rw [HR.out], HB2.out⟩
      case measure => simp [intOf]; omega
    · have e : k = ls.length := by omega
      have hkn : ¬ (k : Int) < (n : Int) := by have := NL.out; omega
      have HE : Hid (partsC t (ls.take k) = partsC t ls) := by rw [e, List.take_length]; exact rfl
      generalize partsC t (ls.take k) = y at *
      go_wp2_with fail
      go_ret
      exact ⟨ret_int (by rw [HE.out]), (below_new w _).trans (HB.out.mono (by omega))⟩

set_option maxHeartbeats 1000000 in
theorem crcparts_any (w : World) (v : Value) (vs : List Value) (ls : List (List UInt8)) (hv : Rowz w v vs) (hl : Byts w vs ls) (hlen : ∀ l ∈ ls, l.length ≤ 70368744177664) :
    Calls Tryd.prog 62 #[v] w (Word32 w (sumC ls.flatten)) := by
  have HV := Lib.hid hv
  have HL := Lib.hid hl
  have HN := Lib.hid hlen
  clear hv hl hlen
  have HF : Hid (sumC ls.flatten = partsC tabC ls) := (partsC_is tabC_tab ls).symm
  go_enter Tryd.func62, Tryd.ntmps62
  go_wp2_with fail
  refine (crctable_any _).mono ?_
  rintro e w1 ⟨rfl, hb1⟩
  go_wp2_with fail
  refine (crcthrough_any _ tabC _ vs ls tabC_tab (HV.out.below hb1) (HL.out.below hb1) HN.out).mono ?_
  rintro e w2 ⟨rfl, hb2⟩
  go_wp2_with fail
  go_ret
  exact ⟨ret_int (by rw [HF.out]), hb1.trans (hb2.mono hb1.size)⟩
end Go.Proofs.YtknagdbhhfelnaaDoor

/-
  Arguments opened for a law's walk: a slice of bytes that came in holds some bytes. Conditions: none.
-/
namespace Go.Proofs.YtknagdbhhfelnaaDoor
open Go.ChangeShapes Go.WideShapes Go.ChangeAt Go.RowKit
set_option maxRecDepth 100000

theorem ownKnobs : ownKnob Tryd.prog.godebug = none := by kernel_rfl
theorem laidOuts : laidOutB Tryd.prog = true := by kernel_rfl

set_option maxRecDepth 100000 in
theorem open_bytesV {H : Type} {enc : TypeId × Value → H} {W : World} {a : Option Addr} {len cap fuel : Nat} {x0 : DataW H × List MemPlace}
    (hf : DataW.trod enc Tryd.prog W 0 (fun _ => true) true fuel 27 [.slice a len cap] = some x0) : ∃ l, Byt W (.slice a len cap) l := by
  obtain ⟨d, p⟩ := x0
  rcases open_ints Tryd.underlying27 Tryd.underlying5 (by kernel_rfl) hf with ⟨hcs, _⟩ | ⟨x, l, c, zs, hcs, _, hl, hm, hz, _, hcell, hwz⟩
  · simp at hcs
    obtain ⟨rfl, rfl, rfl⟩ := hcs
    exact ⟨[], Byt.nil W⟩
  · simp at hcs
    obtain ⟨rfl, rfl, rfl⟩ := hcs
    have hz' : zs.length = cap := by simpa using hz
    have hlen : ((zs.take len).map fun z => UInt8.ofNat z.toNat).length = len := by rw [List.length_map, List.length_take]; omega
    refine ⟨(zs.take len).map fun z => UInt8.ofNat z.toNat, _, cap, by rw [hlen], by omega, hm, ?_⟩
    by_cases h0 : len = 0
    · exact .inl (by subst h0; simp)
    · obtain ⟨b, off, spot⟩ := x
      have hc0 := hcell 0 (by omega)
      have hspot : spot = none := by simpa [Addr.add] using World.cell?_spot hc0
      subst hspot
      refine .inr ⟨b, off, rfl, ?_, fun j hj => ?_⟩
      · rcases Nat.lt_or_ge b W.heap.size with h' | h'
        · exact h'
        · rw [plainAdd] at hc0
          simp [World.cell?, Array.getElem?_eq_none h'] at hc0
      · rw [hlen] at hj
        have hc := hcell j (by omega)
        rw [plainAdd] at hc
        rw [hc]
        have hjz : j < zs.length := by omega
        have hw := hwz (zs.getD j 0) (by simp [List.getElem?_eq_getElem hjz])
        have hb : 0 ≤ zs.getD j 0 ∧ zs.getD j 0 ≤ 255 := by simpa [Lit.wf, IntKind.min, IntKind.max, IntKind.signed, IntKind.bits] using hw
        have e : zs.getD j 0 = zs[j] := by simp [List.getElem?_eq_getElem hjz]
        rw [e] at hb ⊢
        simp only [List.getElem_map, List.getElem_take]
        rw [UInt8.toNat_ofNat']
        congr 2
        omega
theorem open_bytes {H : Type} {enc : TypeId × Value → H} {W : World} {base : Nat} {v : Value} {d : DataW H} {p : List MemPlace}
    (hv : Value.okWide Tryd.prog W .any base 27 v) (h : DataW.Trod enc Tryd.prog W 0 (fun _ => true) true 27 v d p) : ∃ l, Byt W v l := by
  obtain ⟨a, len, cap, rfl⟩ := okWide_slice Tryd.underlying27 hv
  obtain ⟨fuel, hf⟩ := h
  exact open_bytesV hf

/-- A number that came in as a uint64. -/
theorem open_u64 {a : Int} (h : (Lit.int .u64 a).wf = true) : ∃ n : Nat, a = (n : Int) ∧ n < 18446744073709551616 := by
  have hb : 0 ≤ a ∧ a ≤ 18446744073709551615 := by simpa [Lit.wf, IntKind.min, IntKind.max, IntKind.signed, IntKind.bits] using h
  obtain ⟨n, rfl⟩ := Int.eq_ofNat_of_zero_le hb.1
  exact ⟨n, rfl, by omega⟩
theorem open_i64 {a : Int} (h : (Lit.int .i64 a).wf = true) : -9223372036854775808 ≤ a ∧ a ≤ 9223372036854775807 := by
  simpa [Lit.wf, IntKind.min, IntKind.max, IntKind.signed, IntKind.bits] using h
/-- A number that came in as a uint32, a byte. -/
theorem open_u32 {a : Int} (h : (Lit.int .u32 a).wf = true) : ∃ n : Nat, a = (n : Int) ∧ n < 4294967296 := by
  have hb : 0 ≤ a ∧ a ≤ 4294967295 := by simpa [Lit.wf, IntKind.min, IntKind.max, IntKind.signed, IntKind.bits] using h
  obtain ⟨n, rfl⟩ := Int.eq_ofNat_of_zero_le hb.1
  exact ⟨n, rfl, by omega⟩
theorem open_u8 {a : Int} (h : (Lit.int .u8 a).wf = true) : ∃ x : UInt8, a = (x.toNat : Int) := by
  have hb : 0 ≤ a ∧ a ≤ 255 := by simpa [Lit.wf, IntKind.min, IntKind.max, IntKind.signed, IntKind.bits] using h
  obtain ⟨n, rfl⟩ := Int.eq_ofNat_of_zero_le hb.1
  exact ⟨UInt8.ofNat n, by rw [UInt8.toNat_ofNat']; omega⟩
end Go.Proofs.YtknagdbhhfelnaaDoor

/-
  Regions whose order is open, told by a relation between worlds: an operation that answers the same in every later world is taken first; a call that alone is left to come up comes up. Over any program. Conditions: the relation is reflexive and transitive.
-/
namespace Go.Proofs.YtknagdbhhfelnaaDoor
open Go
set_option maxRecDepth 100000

section
variable {P : Program} {ops : Array Oper} {Q : Exit → Act → World → Prop} {md : Region.Mode} {R : World → World → Prop}

/-- Under a narrower condition on the worlds it holds all the more. -/
theorem held_mono {S S' : World → Prop} (hS : ∀ w, S' w → S w) : ∀ (fuel : Nat) (listed : Array Bool) (a : Act) (w : World), wpAnyH P md ops Q S' fuel listed a w → wpAnyH P md ops Q S fuel listed a w
  | 0, _, _, _, h => h
  | fuel + 1, _, _, _, h => ⟨h.1, fun i hi => wpOp_mono (fun a' w' h' => ⟨hS w' h'.1, held_mono hS fuel _ a' w' h'.2⟩) (h.2 i hi)⟩

/-- A schedule: which operation is taken next; 'true': it is a call, and alone may come up. -/
def schedOk (md : Region.Mode) (ops : Array Oper) : List (Nat × Bool) → Array Bool → Bool
  | [], listed => Region.ready md ops listed == []
  | (i, b) :: rest, listed => (if b then Region.ready md ops listed == [i] else Region.free md ops listed i && (Region.ready md ops listed).contains i) && schedOk md ops rest (listed.setIfInBounds i true)

/-- The walk along a schedule, the operations themselves. -/
def wpSch (P : Program) (ops : Array Oper) (Q : Exit → Act → World → Prop) (R : World → World → Prop) : List (Oper × Bool) → Act → World → Prop
  | [], a, w => Q .normal a w
  | (o, true) :: rest, a, w => if Region.wanted o (yielded ops a.tmps) then o.wp P a w (fun a' w' => R w w' ∧ wpSch P ops Q R rest a' w') Q else wpSch P ops Q R rest (a.put o.dst undef) w
  | (o, false) :: rest, a, w => ∃ v, YieldsIf P ops (R w) o v a ∧ wpSch P ops Q R rest (a.put o.dst v) w

/-- The operations that a schedule names. -/
def sel (ops : Array Oper) : List (Nat × Bool) → List (Oper × Bool)
  | [] => []
  | (i, b) :: rest => match ops[i]? with
    | some o => (o, b) :: sel ops rest
    | none => []
theorem sel_cons (ops : Array Oper) (i : Nat) (b : Bool) (rest : List (Nat × Bool)) (o : Oper) (h : ops[i]? = some o) : sel ops ((i, b) :: rest) = (o, b) :: sel ops rest := by
  simp [sel, h]

theorem held_of_sch (hRf : ∀ x, R x x) (hT : ∀ {x y z}, R x y → R y z → R x z) (hs : Region.noSelect ops = true)
    (hQ : ∀ d v c a w, Q (.panic c) (Act.put a d v) w → Q (.panic c) a w) :
    ∀ (l : List (Nat × Bool)) (listed : Array Bool) (a : Act) (w : World), l.all (fun x => decide (x.1 < ops.size)) = true → schedOk md ops l listed = true → wpSch P ops Q R (sel ops l) a w → wpAnyH P md ops Q (R w) l.length listed a w := by
  intro l
  induction l with
  | nil =>
    intro listed a w _ hok h
    exact ⟨by simpa [schedOk] using hok, h⟩
  | cons x l ih =>
    obtain ⟨i, b⟩ := x
    intro listed a w hin hok h
    simp only [List.all_cons, Bool.and_eq_true, decide_eq_true_eq] at hin
    obtain ⟨hi, hr⟩ := hin
    obtain ⟨o, ho⟩ : ∃ o, ops[i]? = some o := ⟨_, Array.getElem?_eq_getElem hi⟩
    rw [sel_cons ops i b l o ho] at h
    simp only [schedOk, Bool.and_eq_true] at hok
    obtain ⟨hk, hok⟩ := hok
    cases b with
    | false =>
      simp only [Bool.false_eq_true, if_false, Bool.and_eq_true] at hk
      obtain ⟨v, hy, h⟩ := h
      exact wpAnyH_take ho hs hk.1 hk.2 (fun c a w => hQ _ _ c a w) hy (hRf w) (ih _ _ _ hr hok h)
    | true =>
      simp only [if_true, beq_iff_eq] at hk
      refine ⟨fun h0 => (by rw [hk] at h0; cases h0), fun j hj => ?_⟩
      rw [hk] at hj
      have : j = i := by simpa using hj
      subst this
      unfold wpOp
      simp only [ho]
      unfold wpSch at h
      by_cases hw : Region.wanted o (yielded ops a.tmps) = true
      · rw [if_pos hw] at h ⊢
        exact .inl (Oper.wp_mono (fun a' w' h' => ⟨h'.1, held_mono (fun u hu => hT h'.1 hu) _ _ _ _ (ih _ _ _ hr hok h'.2)⟩) h)
      · rw [if_neg hw] at h ⊢
        exact ⟨hRf w, ih _ _ _ hr hok h⟩

/-- THE BEGINNING. -/
theorem wp_region_R {id : Nat} {a : Act} {w : World} (hm : P.follows .mixedOrders = true) (hRf : ∀ x, R x x) (hT : ∀ {x y z}, R x y → R y z → R x z) (hs : Region.noSelect ops = true)
    (hQ : ∀ d v c a w, Q (.panic c) (Act.put a d v) w → Q (.panic c) a w) (l : List (Nat × Bool)) (hl : l.length = ops.size) (hok : schedOk .any ops l (Array.replicate ops.size false) = true)
    (hin : l.all (fun x => decide (x.1 < ops.size)) = true) (h : wpSch P ops Q R (sel ops l) a w.drew) : (Code.region id ops true).wp P Q a w := by
  refine wp_region_held (S := R w.drew) hm ?_
  have := held_of_sch (P := P) (md := .any) (R := R) hRf hT hs hQ l (Array.replicate ops.size false) a w.drew hin hok h
  rw [hl] at this
  exact this

/-! The moves. -/
theorem sch_nil {a : Act} {w : World} (h : Q .normal a w) : wpSch P ops Q R [] a w := h
theorem sch_take {o : Oper} {rest : List (Oper × Bool)} {a : Act} {w : World} (v : Value) (hw : Region.wanted o (yielded ops a.tmps) = true)
    (hv : ∀ u, R w u → (execOp a.eval o).run P u = .ok (.value v) u) (h : wpSch P ops Q R rest (a.put o.dst v) w) : wpSch P ops Q R ((o, false) :: rest) a w :=
  ⟨v, .inl ⟨hw, hv⟩, h⟩
theorem sch_idle {o : Oper} {rest : List (Oper × Bool)} {a : Act} {w : World} (hw : Region.wanted o (yielded ops a.tmps) = false)
    (h : wpSch P ops Q R rest (a.put o.dst undef) w) : wpSch P ops Q R ((o, false) :: rest) a w :=
  ⟨undef, .inr ⟨hw, rfl⟩, h⟩
theorem sch_idleC {o : Oper} {rest : List (Oper × Bool)} {a : Act} {w : World} (hw : Region.wanted o (yielded ops a.tmps) = false)
    (h : wpSch P ops Q R rest (a.put o.dst undef) w) : wpSch P ops Q R ((o, true) :: rest) a w := by
  unfold wpSch
  rw [if_neg (by rw [hw]; simp)]
  exact h
theorem sch_call {o : Oper} {rest : List (Oper × Bool)} {a : Act} {w : World} (hw : Region.wanted o (yielded ops a.tmps) = true)
    (h : ∀ K : Act → World → Prop, (∀ a' w', R w w' → wpSch P ops Q R rest a' w' → K a' w') → o.wp P a w K Q) : wpSch P ops Q R ((o, true) :: rest) a w := by
  unfold wpSch
  rw [if_pos hw]
  exact h _ fun a' w' h1 h2 => ⟨h1, h2⟩
end
end Go.Proofs.YtknagdbhhfelnaaDoor

/-
  Regions whose order is open and whose last operation waits for all others: the relation between worlds is asked of all but that last one. Over any program. Conditions: the relation is reflexive and transitive.
-/
namespace Go.Proofs.YtknagdbhhfelnaaDoor
open Go
set_option maxRecDepth 100000

section
variable {P : Program} {ops : Array Oper} {Q : Exit → Act → World → Prop} {md : Region.Mode} {R : World → World → Prop} {n : Nat}

/-- Whatever order is picked of the first n, S behind each; then L. -/
def wpAnyT (P : Program) (md : Region.Mode) (ops : Array Oper) (Q : Exit → Act → World → Prop) (n : Nat) (L : Array Bool → Act → World → Prop) (S : World → Prop) : Nat → Array Bool → Act → World → Prop
  | 0, listed, a, w => (∀ j ∈ Region.ready md ops listed, n ≤ j) ∧ L listed a w
  | fuel + 1, listed, a, w => Region.ready md ops listed ≠ [] ∧ ∀ i ∈ Region.ready md ops listed, i < n ∧ wpOp P ops Q i (fun a' w' => S w' ∧ wpAnyT P md ops Q n L S fuel (listed.setIfInBounds i true) a' w') a w

theorem anyT_mono {L : Array Bool → Act → World → Prop} {S S' : World → Prop} (hS : ∀ w, S' w → S w) : ∀ (fuel : Nat) (listed : Array Bool) (a : Act) (w : World), wpAnyT P md ops Q n L S' fuel listed a w → wpAnyT P md ops Q n L S fuel listed a w
  | 0, _, _, _, h => h
  | fuel + 1, _, _, _, h => ⟨h.1, fun i hi => ⟨(h.2 i hi).1, wpOp_mono (fun a' w' h' => ⟨hS w' h'.1, anyT_mono hS fuel _ a' w' h'.2⟩) (h.2 i hi).2⟩⟩

theorem any_of_T {L : Array Bool → Act → World → Prop} {S : World → Prop} {g : Nat} (hL : ∀ listed a w, L listed a w → wpAny P md ops Q g listed a w) :
    ∀ (f : Nat) (listed : Array Bool) (a : Act) (w : World), wpAnyT P md ops Q n L S f listed a w → wpAny P md ops Q (f + g) listed a w
  | 0, listed, a, w, h => by rw [Nat.zero_add]; exact hL _ _ _ h.2
  | f + 1, listed, a, w, h => by
    rw [show f + 1 + g = (f + g) + 1 by omega]
    exact ⟨fun h0 => absurd h0 h.1, fun i hi => wpOp_mono (fun a' w' h' => any_of_T hL f _ a' w' h'.2) (h.2 i hi).2⟩

theorem anyT_first {L : Array Bool → Act → World → Prop} {S : World → Prop} {i : Nat} {oi : Oper} {v : Value} (hi : ops[i]? = some oi) (hsel : ∀ (j : Nat) (o : Oper) cs b, ops[j]? = some o → o.op ≠ .select cs b)
    (hs : Region.sinkB md ops n = true) (hc : Region.chainB md ops n = true) (hn : n < ops.size) (hin : i < n)
    (hQ : ∀ c a w, Q (.panic c) (a.put oi.dst v) w → Q (.panic c) a w) :
    ∀ (f : Nat) (listed : Array Bool) (a : Act) (w : World), HeadInv md ops n listed →
      (∀ j oj, ops[j]? = some oj → j ≠ i → listed.getD j true = false → (∀ e ∈ oj.after, Region.binds md e = true → e.on ≠ i) → oi.apart ops oj = true) →
      i ∈ Region.ready md ops listed → YieldsIf P ops S oi v a → S w →
      wpAnyT P md ops Q n L S f (listed.setIfInBounds i true) (a.put oi.dst v) w → wpAnyT P md ops Q n L S (f + 1) listed a w := by
  intro f
  induction f with
  | zero =>
    intro listed a w inv _ hr hy hS H
    have hun := (mem_ready.1 hr).1
    refine ⟨fun h => (by rw [h] at hr; cases hr), fun j hj => ?_⟩
    have hjn : j < n := by
      rcases Nat.lt_or_ge j n with h | h
      · exact h
      · exact absurd hj (tail_waits hs hc hn inv _ i rfl hin hun j h)
    refine ⟨hjn, ?_⟩
    by_cases hji : j = i
    · subst hji; exact hy.wpOp hi hS ⟨hS, H⟩
    · have := H.1 j (ready_mono hj hji)
      omega
  | succ f ih =>
    intro listed a w inv hfree hr hy hS H
    have hun := (mem_ready.1 hr).1
    refine ⟨fun h => (by rw [h] at hr; cases hr), fun j hj => ?_⟩
    have hjn : j < n := by
      rcases Nat.lt_or_ge j n with h | h
      · exact h
      · exact absurd hj (tail_waits hs hc hn inv _ i rfl hin hun j h)
    refine ⟨hjn, ?_⟩
    by_cases hji : j = i
    · subst hji; exact hy.wpOp hi hS ⟨hS, H⟩
    · have h1 := (H.2 j (ready_mono hj hji)).2
      obtain ⟨hjun, oj, hoj, hall⟩ := mem_ready.1 hj
      have hnot : ∀ e ∈ oj.after, Region.binds md e = true → e.on ≠ i := fun e he hb heq => by
        have h1 := hall e he hb
        rw [heq, getD_both hun] at h1
        cases h1
      have h2 := wpOp_putIf hoj (hfree j oj hoj hji hjun hnot) (fun cs b => hsel i oi cs b hi) (fun cs b => hsel j oj cs b hoj) hQ hy h1
      have hfree' : ∀ k ok, ops[k]? = some ok → k ≠ i → (listed.setIfInBounds j true).getD k true = false →
          (∀ e ∈ ok.after, Region.binds md e = true → e.on ≠ i) → oi.apart ops ok = true := fun k ok hk hki hun hno => by
        refine hfree k ok hk hki ?_ hno
        by_cases hjk : j = k
        · subst hjk; exact hjun
        · rw [getD_set_ne true hjk] at hun; exact hun
      refine wpOp_mono (fun a' w' h3 => ⟨h3.2.1, ih (listed.setIfInBounds j true) a' w' (inv.set hj hjn) hfree' (ready_mono hr (Ne.symm hji)) h3.1 h3.2.1 ?_⟩) h2
      rw [Array.setIfInBounds_comm _ _ hji]
      exact h3.2.2

/-- A schedule of the first n. -/
def schedOkT (md : Region.Mode) (ops : Array Oper) (n : Nat) : List (Nat × Bool) → Array Bool → Bool
  | [], listed => Region.ready md ops listed == [n] && Region.ready md ops (listed.setIfInBounds n true) == []
  | (i, b) :: rest, listed => (if b then Region.ready md ops listed == [i] else Region.free md ops listed i && (Region.ready md ops listed).contains i) && decide (i < n) && schedOkT md ops n rest (listed.setIfInBounds i true)

/-- The walk along it; L at its end. -/
def wpSchT (P : Program) (ops : Array Oper) (Q : Exit → Act → World → Prop) (R : World → World → Prop) (L : Act → World → Prop) : List (Oper × Bool) → Act → World → Prop
  | [], a, w => L a w
  | (o, true) :: rest, a, w => if Region.wanted o (yielded ops a.tmps) then o.wp P a w (fun a' w' => R w w' ∧ wpSchT P ops Q R L rest a' w') Q else wpSchT P ops Q R L rest (a.put o.dst undef) w
  | (o, false) :: rest, a, w => ∃ v, YieldsIf P ops (R w) o v a ∧ wpSchT P ops Q R L rest (a.put o.dst v) w

theorem T_of_sch (hRf : ∀ x, R x x) (hT : ∀ {x y z}, R x y → R y z → R x z) (hs : Region.noSelect ops = true)
    (hsk : Region.sinkB md ops n = true) (hc : Region.chainB md ops n = true) (hn : n < ops.size)
    (hQ : ∀ d v c a w, Q (.panic c) (Act.put a d v) w → Q (.panic c) a w) {L : Act → World → Prop} :
    ∀ (l : List (Nat × Bool)) (listed : Array Bool) (a : Act) (w : World), HeadInv md ops n listed → schedOkT md ops n l listed = true → wpSchT P ops Q R L (sel ops l) a w →
      wpAnyT P md ops Q n (fun listed' a' w' => (Region.ready md ops listed' = [n] ∧ Region.ready md ops (listed'.setIfInBounds n true) = []) ∧ L a' w') (R w) l.length listed a w := by
  intro l
  induction l with
  | nil =>
    intro listed a w _ hok h
    simp only [schedOkT, Bool.and_eq_true, beq_iff_eq] at hok
    refine ⟨fun j hj => ?_, hok, h⟩
    rw [hok.1] at hj
    have : j = n := by simpa using hj
    omega
  | cons x l ih =>
    obtain ⟨i, b⟩ := x
    intro listed a w inv hok h
    simp only [schedOkT, Bool.and_eq_true, decide_eq_true_eq] at hok
    obtain ⟨⟨hk, hin⟩, hok⟩ := hok
    obtain ⟨o, ho⟩ : ∃ o, ops[i]? = some o := ⟨_, Array.getElem?_eq_getElem (by omega)⟩
    rw [sel_cons ops i b l o ho] at h
    cases b with
    | false =>
      simp only [Bool.false_eq_true, if_false, Bool.and_eq_true] at hk
      obtain ⟨v, hy, h⟩ := h
      have hr : i ∈ Region.ready md ops listed := by simpa using hk.2
      exact anyT_first ho (Region.noSelect_spec hs) hsk hc hn hin (fun c a w => hQ _ _ c a w) _ listed a w inv (Region.free_spec ho hk.1) hr hy (hRf w) (ih _ _ _ (inv.set hr hin) hok h)
    | true =>
      simp only [if_true, beq_iff_eq] at hk
      have hr : i ∈ Region.ready md ops listed := by rw [hk]; simp
      refine ⟨fun h0 => (by rw [hk] at h0; cases h0), fun j hj => ?_⟩
      rw [hk] at hj
      have : j = i := by simpa using hj
      subst this
      refine ⟨hin, ?_⟩
      unfold wpOp
      simp only [ho]
      unfold wpSchT at h
      by_cases hw : Region.wanted o (yielded ops a.tmps) = true
      · rw [if_pos hw] at h ⊢
        exact .inl (Oper.wp_mono (fun a' w' h' => ⟨h'.1, anyT_mono (fun u hu => hT h'.1 hu) _ _ _ _ (ih _ _ _ (inv.set hr hin) hok h'.2)⟩) h)
      · rw [if_neg hw] at h ⊢
        exact ⟨hRf w, ih _ _ _ (inv.set hr hin) hok h⟩

/-- THE BEGINNING: the first n by a schedule, then the last operation. -/
theorem wp_region_T {id : Nat} {a : Act} {w : World} (hm : P.follows .mixedOrders = true) (hRf : ∀ x, R x x) (hT : ∀ {x y z}, R x y → R y z → R x z) (hs : Region.noSelect ops = true)
    (n : Nat) (hn : ops.size = n + 1) (hsk : Region.sinkB .any ops n = true) (hc : Region.chainB .any ops n = true)
    (hQ : ∀ d v c a w, Q (.panic c) (Act.put a d v) w → Q (.panic c) a w) (l : List (Nat × Bool)) (hl : l.length = n) (hok : schedOkT .any ops n l (Array.replicate ops.size false) = true)
    (h : wpSchT P ops Q R (fun a' w' => wpOp P ops Q n (fun a2 w2 => Q .normal a2 w2) a' w') (sel ops l) a w.drew) : (Code.region id ops true).wp P Q a w := by
  refine wp_region_any hm ?_
  have inv0 : HeadInv .any ops n (Array.replicate ops.size false) :=
    ⟨by simp, fun j oj _ hl => (by rw [getD_replicate_false] at hl; cases hl), fun t _ ht => getD_in (by simpa using ht) (getD_replicate_false _ _)⟩
  have H := T_of_sch (P := P) (md := .any) (R := R) hRf hT hs hsk hc (by omega) hQ l (Array.replicate ops.size false) a w.drew inv0 hok h
  have := any_of_T (g := 1) (fun listed a' w' hL => ⟨fun h0 => (by rw [hL.1.1] at h0; cases h0), fun j hj => (by
    rw [hL.1.1] at hj
    have : j = n := by simpa using hj
    subst this
    exact wpOp_mono (fun a2 w2 h2 => ⟨hL.1.2, h2⟩) hL.2)⟩) _ _ _ _ H
  rw [hl, ← hn] at this
  exact this

/-! The moves. -/
theorem schT_nil {L : Act → World → Prop} {a : Act} {w : World} (h : L a w) : wpSchT P ops Q R L [] a w := h
theorem schT_take {L : Act → World → Prop} {o : Oper} {rest : List (Oper × Bool)} {a : Act} {w : World} (v : Value) (hw : Region.wanted o (yielded ops a.tmps) = true)
    (hv : ∀ u, R w u → (execOp a.eval o).run P u = .ok (.value v) u) (h : wpSchT P ops Q R L rest (a.put o.dst v) w) : wpSchT P ops Q R L ((o, false) :: rest) a w :=
  ⟨v, .inl ⟨hw, hv⟩, h⟩
theorem schT_call {L : Act → World → Prop} {o : Oper} {rest : List (Oper × Bool)} {a : Act} {w : World} (hw : Region.wanted o (yielded ops a.tmps) = true)
    (h : ∀ K : Act → World → Prop, (∀ a' w', R w w' → wpSchT P ops Q R L rest a' w' → K a' w') → o.wp P a w K Q) : wpSchT P ops Q R L ((o, true) :: rest) a w := by
  unfold wpSchT
  rw [if_pos hw]
  exact h _ fun a' w' h1 h2 => ⟨h1, h2⟩
/-- The last operation. -/
theorem schT_last {o : Oper} {a : Act} {w : World} (ho : ops[n]? = some o) (hw : Region.wanted o (yielded ops a.tmps) = true) (h : o.wp P a w (fun a2 w2 => Q .normal a2 w2) Q) : wpOp P ops Q n (fun a2 w2 => Q .normal a2 w2) a w := by
  unfold wpOp
  simp only [ho]
  rw [if_pos hw]
  exact .inl h
end
end Go.Proofs.YtknagdbhhfelnaaDoor

