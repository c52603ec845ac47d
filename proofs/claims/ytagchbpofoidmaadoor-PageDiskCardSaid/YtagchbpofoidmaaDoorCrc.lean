/-
  The published sum of 32 bits as plain functions of numbers and bytes: its table, its steps, and what follows: they go with exclusive or, a step loses nothing, bytes that differ within four places alone have unlike sums. No program is named here.
-/
import Derived.Test.YtagchbpofoidmaaDoorRows
import Derived.Laws.BitsAllLaws
namespace Go.Proofs.YtagchbpofoidmaaDoor
set_option maxRecDepth 100000

def bitC (w : Nat) : Nat := if w % 2 = 1 then w / 2 ^^^ 2197175160 else w / 2
def iterC : Nat → Nat → Nat
  | 0, w => w
  | k + 1, w => iterC k (bitC w)
def wordC (w : Nat) : Nat := iterC 8 w
def tabC : List Nat := (List.range 256).map wordC
def notC (x : Nat) : Nat := 4294967295 - x
def stepC (t : List Nat) (s : Nat) (x : UInt8) : Nat := t.getD (s % 256 ^^^ x.toNat) 0 ^^^ s / 256
def runC (t : List Nat) (s : Nat) (l : List UInt8) : Nat := l.foldl (stepC t) s
def onC (t : List Nat) (s : Nat) (l : List UInt8) : Nat := notC (runC t (notC s) l)
def sumC (l : List UInt8) : Nat := onC tabC 0 l
/-- A table: 256 words. -/
def Tab (t : List Nat) : Prop := t.length = 256 ∧ ∀ x ∈ t, x < 4294967296

theorem xor32_lt {a b : Nat} (ha : a < 4294967296) (hb : b < 4294967296) : a ^^^ b < 4294967296 := Nat.xor_lt_two_pow (n := 32) ha hb
theorem xor8_lt {a b : Nat} (ha : a < 256) (hb : b < 256) : a ^^^ b < 256 := Nat.xor_lt_two_pow (n := 8) ha hb
theorem xor_half (a b : Nat) : (a ^^^ b) / 2 = a / 2 ^^^ b / 2 := by
  have := Nat.xor_div_two_pow (a := a) (b := b) (n := 1)
  simpa using this
theorem xor_odd (a b : Nat) : (a ^^^ b) % 2 = (a % 2 + b % 2) % 2 := by
  have := Nat.xor_mod_two_pow (a := a) (b := b) (n := 1)
  have h : (a ^^^ b) % 2 = a % 2 ^^^ b % 2 := by simpa using this
  rw [h]
  rcases Nat.mod_two_eq_zero_or_one a with h1 | h1 <;> rcases Nat.mod_two_eq_zero_or_one b with h2 | h2 <;> rw [h1, h2] <;> rfl

theorem bitC_lt {w : Nat} (h : w < 4294967296) : bitC w < 4294967296 := by
  unfold bitC
  split
  · exact xor32_lt (by omega) (by omega)
  · omega
theorem xor_mid (a b c : Nat) : (a ^^^ c) ^^^ (b ^^^ c) = a ^^^ b := by
  rw [Nat.xor_comm b c, ← Nat.xor_assoc, Nat.xor_assoc a c c, Nat.xor_self, Nat.xor_zero]
theorem bitC_xor (a b : Nat) : bitC (a ^^^ b) = bitC a ^^^ bitC b := by
  unfold bitC
  rw [xor_odd, xor_half]
  rcases Nat.mod_two_eq_zero_or_one a with h1 | h1 <;> rcases Nat.mod_two_eq_zero_or_one b with h2 | h2 <;> simp only [h1, h2]
  · rfl
  · simp [Nat.xor_assoc]
  · simp
    rw [Nat.xor_assoc, Nat.xor_comm (b / 2), ← Nat.xor_assoc]
  · simp [xor_mid]
theorem top_xor {a : Nat} (h : a < 2147483648) : 2147483648 ≤ a ^^^ 2197175160 := by
  rcases Nat.lt_or_ge (a ^^^ 2197175160) 2147483648 with h1 | h1
  · exfalso
    have h2 : a ^^^ (a ^^^ 2197175160) < 2147483648 := Nat.xor_lt_two_pow (n := 31) h h1
    rw [← Nat.xor_assoc, Nat.xor_self, Nat.zero_xor] at h2
    omega
  · exact h1
theorem bitC_zero {w : Nat} (hw : w < 4294967296) (h : bitC w = 0) : w = 0 := by
  unfold bitC at h
  split at h
  · have := top_xor (a := w / 2) (by omega)
    omega
  · omega
theorem xor_zero {a b : Nat} (h : a ^^^ b = 0) : a = b := by
  have h2 : a ^^^ (a ^^^ b) = a ^^^ 0 := by rw [h]
  rw [← Nat.xor_assoc, Nat.xor_self, Nat.zero_xor, Nat.xor_zero] at h2
  exact h2.symm
theorem bitC_inj {a b : Nat} (ha : a < 4294967296) (hb : b < 4294967296) (h : bitC a = bitC b) : a = b := by
  apply xor_zero
  apply bitC_zero (xor32_lt ha hb)
  rw [bitC_xor, h, Nat.xor_self]
theorem iterC_lt (k : Nat) : ∀ {w : Nat}, w < 4294967296 → iterC k w < 4294967296 := by
  induction k with
  | zero => intro w h; exact h
  | succ k ih => intro w h; exact ih (bitC_lt h)
theorem iterC_xor (k : Nat) : ∀ a b : Nat, iterC k (a ^^^ b) = iterC k a ^^^ iterC k b := by
  induction k with
  | zero => intro a b; rfl
  | succ k ih => intro a b; simp only [iterC]; rw [bitC_xor, ih]
theorem iterC_inj (k : Nat) : ∀ {a b : Nat}, a < 4294967296 → b < 4294967296 → iterC k a = iterC k b → a = b := by
  induction k with
  | zero => intro a b _ _ h; exact h
  | succ k ih => intro a b ha hb h; exact bitC_inj ha hb (ih (bitC_lt ha) (bitC_lt hb) h)
theorem iterC_pow (k v : Nat) : iterC k (2 ^ k * v) = v := by
  induction k with
  | zero => simp [iterC]
  | succ k ih =>
    have : bitC (2 ^ (k + 1) * v) = 2 ^ k * v := by
      unfold bitC
      rw [Nat.pow_succ, Nat.mul_comm (2 ^ k) 2, Nat.mul_assoc, if_neg (by omega)]
      omega
    rw [iterC, this, ih]
theorem iterC_snoc (k : Nat) : ∀ w, iterC (k + 1) w = bitC (iterC k w) := by
  induction k with
  | zero => intro w; rfl
  | succ k ih => intro w; rw [iterC, ih, iterC]

theorem wordC_lt {w : Nat} (h : w < 4294967296) : wordC w < 4294967296 := iterC_lt 8 h
theorem wordC_xor (a b : Nat) : wordC (a ^^^ b) = wordC a ^^^ wordC b := iterC_xor 8 a b
theorem wordC_inj {a b : Nat} (ha : a < 4294967296) (hb : b < 4294967296) (h : wordC a = wordC b) : a = b := iterC_inj 8 ha hb h
theorem wordC_up (v : Nat) : wordC (256 * v) = v := iterC_pow 8 v

theorem tabC_at {b : Nat} (h : b < 256) : tabC.getD b 0 = wordC b := by
  unfold tabC
  simp [List.getElem?_range h]
theorem tabC_tab : Tab tabC := by
  refine ⟨by simp [tabC], fun x hx => ?_⟩
  simp only [tabC, List.mem_map, List.mem_range] at hx
  obtain ⟨b, hb, rfl⟩ := hx
  exact wordC_lt (by omega)
theorem Tab.getD {t : List Nat} (h : Tab t) (k : Nat) : t.getD k 0 < 4294967296 := by
  rcases Nat.lt_or_ge k t.length with hk | hk
  · rw [List.getD_eq_getElem?_getD, List.getElem?_eq_getElem hk]; exact h.2 _ (List.getElem_mem hk)
  · rw [List.getD_eq_getElem?_getD, List.getElem?_eq_none hk]; simp
theorem byte_lt (x : UInt8) : x.toNat < 256 := UInt8.toNat_lt x
theorem stepC_lt {t : List Nat} (h : Tab t) (s : Nat) (x : UInt8) (hs : s < 4294967296) : stepC t s x < 4294967296 := xor32_lt (h.getD _) (by omega)
theorem runC_lt {t : List Nat} (h : Tab t) : ∀ (l : List UInt8) (s : Nat), s < 4294967296 → runC t s l < 4294967296 := by
  intro l
  induction l with
  | nil => intro s hs; exact hs
  | cons x l ih => intro s hs; exact ih _ (stepC_lt h s x hs)
theorem notC_lt (s : Nat) : notC s < 4294967296 := by unfold notC; omega
theorem onC_lt (t : List Nat) (s : Nat) (l : List UInt8) : onC t s l < 4294967296 := notC_lt _
theorem sumC_lt (l : List UInt8) : sumC l < 4294967296 := onC_lt _ _ _
theorem notC_notC {s : Nat} (h : s < 4294967296) : notC (notC s) = s := by unfold notC; omega
theorem notC_inj {a b : Nat} (ha : a < 4294967296) (hb : b < 4294967296) (h : notC a = notC b) : a = b := by unfold notC at h; omega
theorem runC_nil (t : List Nat) (s : Nat) : runC t s [] = s := rfl
theorem runC_cons (t : List Nat) (s : Nat) (x : UInt8) (l : List UInt8) : runC t s (x :: l) = runC t (stepC t s x) l := rfl
theorem runC_app (t : List Nat) (s : Nat) (l m : List UInt8) : runC t s (l ++ m) = runC t (runC t s l) m := by unfold runC; rw [List.foldl_append]
theorem runC_snoc (t : List Nat) (s : Nat) (l : List UInt8) (x : UInt8) : runC t s (l ++ [x]) = stepC t (runC t s l) x := by rw [runC_app]; rfl
theorem onC_nil (t : List Nat) (s : Nat) (hs : s < 4294967296) : onC t s [] = s := by unfold onC; rw [runC_nil, notC_notC hs]
theorem onC_app {t : List Nat} (h : Tab t) (s : Nat) (l m : List UInt8) : onC t s (l ++ m) = onC t (onC t s l) m := by
  unfold onC
  rw [runC_app, notC_notC (runC_lt h _ _ (notC_lt s))]

theorem byte_parts (s : Nat) : s = s % 256 ^^^ 256 * (s / 256) := by
  apply Nat.eq_of_testBit_eq
  intro j
  have h1 : (s % 256).testBit j = (decide (j < 8) && s.testBit j) := Nat.testBit_mod_two_pow s 8 j
  have h2 : (256 * (s / 256)).testBit j = (decide (j ≥ 8) && (s / 256).testBit (j - 8)) := Nat.testBit_two_pow_mul (i := 8) (a := s / 256) (j := j)
  have h3 : (s / 256).testBit (j - 8) = s.testBit (8 + (j - 8)) := Nat.testBit_div_two_pow s (j - 8) (n := 8) |>.trans (by rw [Nat.add_comm])
  rw [Nat.testBit_xor, h1, h2, h3]
  by_cases hj : j < 8
  · simp [hj, show ¬ 8 ≤ j by omega]
  · have : 8 + (j - 8) = j := by omega
    simp [hj, show 8 ≤ j by omega, this]
/-- A step by the table is eight steps of the whole state. -/
theorem stepC_word (s : Nat) (x : UInt8) : stepC tabC s x = wordC (s ^^^ x.toNat) := by
  unfold stepC
  rw [tabC_at (xor8_lt (Nat.mod_lt _ (by omega)) (byte_lt x))]
  have h : s ^^^ x.toNat = (s % 256 ^^^ x.toNat) ^^^ 256 * (s / 256) := by
    have h0 : s ^^^ x.toNat = (s % 256 ^^^ 256 * (s / 256)) ^^^ x.toNat := by rw [← byte_parts]
    rw [h0, Nat.xor_assoc, Nat.xor_comm (256 * (s / 256)), ← Nat.xor_assoc]
  rw [h, wordC_xor (s % 256 ^^^ x.toNat), wordC_up]
theorem byte32 (x : UInt8) : x.toNat < 4294967296 := by have := byte_lt x; omega
theorem stepC_inj {s r : Nat} (x : UInt8) (hs : s < 4294967296) (hr : r < 4294967296) (h : stepC tabC s x = stepC tabC r x) : s = r := by
  rw [stepC_word, stepC_word] at h
  have h2 := wordC_inj (xor32_lt hs (byte32 x)) (xor32_lt hr (byte32 x)) h
  apply xor_zero
  rw [← xor_mid s r x.toNat, h2, Nat.xor_self]
theorem stepC_byte {s : Nat} {x y : UInt8} (hs : s < 4294967296) (h : stepC tabC s x = stepC tabC s y) : x = y := by
  rw [stepC_word, stepC_word] at h
  have h2 := wordC_inj (xor32_lt hs (byte32 x)) (xor32_lt hs (byte32 y)) h
  apply UInt8.toNat_inj.1
  apply xor_zero
  rw [← xor_mid x.toNat y.toNat s, Nat.xor_comm x.toNat, Nat.xor_comm y.toNat, h2, Nat.xor_self]
theorem runC_inj (l : List UInt8) : ∀ {s r : Nat}, s < 4294967296 → r < 4294967296 → runC tabC s l = runC tabC r l → s = r := by
  induction l with
  | nil => intro s r _ _ h; exact h
  | cons x l ih => intro s r hs hr h; exact stepC_inj x hs hr (ih (stepC_lt tabC_tab s x hs) (stepC_lt tabC_tab r x hr) h)

/-- Bytes as a number, the first one lowest. -/
def valC : List UInt8 → Nat
  | [] => 0
  | x :: l => x.toNat + 256 * valC l
theorem valC_lt : ∀ l : List UInt8, valC l < 256 ^ l.length := by
  intro l
  induction l with
  | nil => simp [valC]
  | cons x l ih =>
    have := byte_lt x
    simp only [valC, List.length_cons, Nat.pow_succ]
    omega
theorem valC_inj : ∀ {l m : List UInt8}, l.length = m.length → valC l = valC m → l = m := by
  intro l
  induction l with
  | nil => intro m h _; cases m with
    | nil => rfl
    | cons _ _ => simp at h
  | cons x l ih =>
    intro m h h2
    cases m with
    | nil => simp at h
    | cons y m =>
      simp only [valC] at h2
      have := byte_lt x
      have := byte_lt y
      rw [ih (by simpa using h) (by omega), UInt8.toNat_inj.1 (show x.toNat = y.toNat by omega)]
def manyC : Nat → Nat → Nat
  | 0, w => w
  | k + 1, w => manyC k (wordC w)
theorem manyC_inj (k : Nat) : ∀ {a b : Nat}, a < 4294967296 → b < 4294967296 → manyC k a = manyC k b → a = b := by
  induction k with
  | zero => intro a b _ _ h; exact h
  | succ k ih => intro a b ha hb h; exact wordC_inj ha hb (ih (wordC_lt ha) (wordC_lt hb) h)
theorem byte_join (x v : Nat) (hx : x < 256) : x + 256 * v = x ^^^ 256 * v := by
  have h := byte_parts (x + 256 * v)
  rw [show (x + 256 * v) % 256 = x by omega, show (x + 256 * v) / 256 = v by omega] at h
  exact h
theorem runC_many : ∀ (l : List UInt8) (s : Nat), runC tabC s l = manyC l.length (s ^^^ valC l) := by
  intro l
  induction l with
  | nil => intro s; simp [runC, manyC, valC]
  | cons x l ih =>
    intro s
    rw [runC_cons, ih, stepC_word, List.length_cons, manyC, valC, byte_join _ _ (byte_lt x), ← Nat.xor_assoc, wordC_xor (s ^^^ x.toNat), wordC_up]
theorem val32 {l : List UInt8} (h : l.length ≤ 4) : valC l < 4294967296 := by
  have h1 := valC_lt l
  have h2 : 256 ^ l.length ≤ 256 ^ 4 := Nat.pow_le_pow_right (by omega) h
  have h3 : (256 : Nat) ^ 4 = 4294967296 := by decide
  omega
theorem runC_four {l m : List UInt8} {s : Nat} (hs : s < 4294967296) (hl : l.length = m.length) (h4 : l.length ≤ 4) (h : runC tabC s l = runC tabC s m) : l = m := by
  rw [runC_many, runC_many, hl] at h
  have h2 := manyC_inj _ (xor32_lt hs (val32 h4)) (xor32_lt hs (val32 (by omega))) h
  apply valC_inj hl
  apply xor_zero
  rw [← xor_mid (valC l) (valC m) s, Nat.xor_comm (valC l), Nat.xor_comm (valC m), h2, Nat.xor_self]
/-- Rows that differ within four places alone have unlike sums. -/
theorem sumC_four {p l m r : List UInt8} (hl : l.length = m.length) (h4 : l.length ≤ 4) (h : sumC (p ++ l ++ r) = sumC (p ++ m ++ r)) : l = m := by
  have h1 := notC_inj (runC_lt tabC_tab _ _ (notC_lt 0)) (runC_lt tabC_tab _ _ (notC_lt 0)) h
  rw [runC_app, runC_app, runC_app, runC_app] at h1
  have hp := runC_lt tabC_tab p _ (notC_lt 0)
  exact runC_four hp hl h4 (runC_inj r (runC_lt tabC_tab _ _ hp) (runC_lt tabC_tab _ _ hp) h1)

/-! Sums go with exclusive or. -/
def mixC : List UInt8 → List UInt8 → List UInt8 → List UInt8
  | x :: a, y :: b, z :: c => (x ^^^ y ^^^ z) :: mixC a b c
  | _, _, _ => []
theorem stepC_mix (s r q : Nat) (x y z : UInt8) : stepC tabC (s ^^^ r ^^^ q) (x ^^^ y ^^^ z) = stepC tabC s x ^^^ stepC tabC r y ^^^ stepC tabC q z := by
  simp only [stepC_word, ← wordC_xor, UInt8.toNat_xor]
  congr 1
  ac_rfl
theorem runC_mix : ∀ (a b c : List UInt8) (s r q : Nat), a.length = b.length → b.length = c.length → runC tabC (s ^^^ r ^^^ q) (mixC a b c) = runC tabC s a ^^^ runC tabC r b ^^^ runC tabC q c := by
  intro a
  induction a with
  | nil =>
    intro b c s r q h1 h2
    obtain rfl : b = [] := List.eq_nil_of_length_eq_zero (by simpa using h1.symm)
    obtain rfl : c = [] := List.eq_nil_of_length_eq_zero (by simpa using h2.symm)
    rfl
  | cons x a ih =>
    intro b c s r q h1 h2
    cases b with
    | nil => simp at h1
    | cons y b =>
      cases c with
      | nil => simp at h2
      | cons z c =>
        simp only [mixC, runC_cons]
        rw [stepC_mix]
        exact ih b c _ _ _ (by simpa using h1) (by simpa using h2)
theorem notC_xor {s : Nat} (h : s < 4294967296) : notC s = s ^^^ 4294967295 := by
  have h1 : s ^^^ 4294967295 < 4294967296 := xor32_lt h (by omega)
  apply Nat.eq_of_testBit_eq
  intro j
  unfold notC
  rw [Nat.testBit_xor, show 4294967295 - s = 2 ^ 32 - (s + 1) by omega, Nat.testBit_two_pow_sub_succ h, show (4294967295 : Nat) = 2 ^ 32 - 1 from rfl, Nat.testBit_two_pow_sub_one]
  by_cases hj : j < 32
  · simp [hj]
  · have : s.testBit j = false := Nat.testBit_lt_two_pow (Nat.lt_of_lt_of_le (show s < 2 ^ 32 from h) (Nat.pow_le_pow_right (n := 2) (by decide) (show 32 ≤ j by omega)))
    simp [hj, this]
theorem sumC_mix (a b c : List UInt8) (h1 : a.length = b.length) (h2 : b.length = c.length) : sumC a ^^^ sumC b ^^^ sumC c = sumC (mixC a b c) := by
  have h := runC_mix a b c (notC 0) (notC 0) (notC 0) h1 h2
  rw [Nat.xor_self, Nat.zero_xor] at h
  unfold sumC onC
  rw [h]
  have k : ∀ l, runC tabC (notC 0) l < 4294967296 := fun l => runC_lt tabC_tab l _ (notC_lt 0)
  rw [notC_xor (k a), notC_xor (k b), notC_xor (k c), notC_xor (xor32_lt (xor32_lt (k a) (k b)) (k c)), xor_mid, ← Nat.xor_assoc]
theorem mixC_len (a b c : List UInt8) (h1 : a.length = b.length) (h2 : b.length = c.length) : (mixC a b c).length = a.length := by
  induction a generalizing b c with
  | nil => cases b <;> cases c <;> rfl
  | cons x a ih =>
    cases b with
    | nil => simp at h1
    | cons y b =>
      cases c with
      | nil => simp at h2
      | cons z c => simp only [mixC, List.length_cons]; rw [ih b c (by simpa using h1) (by simpa using h2)]
end Go.Proofs.YtagchbpofoidmaaDoor
