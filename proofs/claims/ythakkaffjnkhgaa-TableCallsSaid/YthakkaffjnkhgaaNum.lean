/-
  Plain functions on numbers and bytes: a number's bytes, a word's bytes, and how they are read. No program is named here.
-/
import Derived.Test.YthakkaffjnkhgaaRows
import Derived.Laws.BitsAllLaws
namespace Go.Proofs.Ythakkaffjnkhgaa
set_option maxRecDepth 100000

/-- A number's bytes, with fuel. -/
def numF : Nat → Nat → List UInt8
  | 0, n => [UInt8.ofNat n]
  | f + 1, n => if n < 128 then [UInt8.ofNat n] else UInt8.ofNat (n % 128 + 128) :: numF f (n / 128)
def numB (n : Nat) : List UInt8 := numF 9 n

theorem numF_small (f n : Nat) (h : n < 128) : numF f n = [UInt8.ofNat n] := by cases f <;> simp [numF, h]
theorem numF_step (f n : Nat) (h : 128 ≤ n) : numF (f + 1) n = UInt8.ofNat (n % 128 + 128) :: numF f (n / 128) := by
  rw [numF, if_neg (by omega)]
theorem numF_len (f n : Nat) : 1 ≤ (numF f n).length ∧ (numF f n).length ≤ f + 1 := by
  induction f generalizing n with
  | zero => simp [numF]
  | succ f ih =>
    unfold numF
    split
    · simp
    · have := ih (n / 128)
      simp only [List.length_cons]
      omega
theorem numB_len (n : Nat) : 1 ≤ (numB n).length ∧ (numB n).length ≤ 10 := numF_len 9 n

theorem u8n (n : Nat) : (UInt8.ofNat n).toNat = n % 256 := UInt8.toNat_ofNat'
theorem or128 : ∀ a : Fin 256, bits .or .u8 (a.val : Int) 128 = ((a.val % 128 + 128 : Nat) : Int) := by decide +kernel
theorem or128_nat (m : Nat) : bits .or .u8 ((m : Int) % 256) 128 = ((UInt8.ofNat (m % 128 + 128)).toNat : Int) := by
  have h := or128 ⟨m % 256, Nat.mod_lt _ (by omega)⟩
  have e : ((m : Int) % 256) = ((m % 256 : Nat) : Int) := by omega
  rw [e, h, u8n]
  show ((m % 256 % 128 + 128 : Nat) : Int) = _
  omega
theorem byte_nat (m : Nat) (h : m < 256) : (m : Int) = ((UInt8.ofNat m).toNat : Int) := by
  rw [u8n]; omega
theorem byte_mod (m : Nat) : (m : Int) % 256 = ((UInt8.ofNat m).toNat : Int) := by
  rw [u8n]; omega

theorem byte_shift (n j : Nat) : (n : Int) / 2 ^ (8 * j) % 256 = ((UInt8.ofNat (n / 256 ^ j % 256)).toNat : Int) := by
  have e : (n : Int) / 2 ^ (8 * j) = ((n / 256 ^ j : Nat) : Int) := by
    rw [show (256 : Nat) = 2 ^ 8 from rfl, ← Nat.pow_mul]
    push_cast
    rfl
  rw [e, u8n]
  omega

/-- A word's bytes. -/
def wordB : Nat → Nat → List UInt8
  | 0, _ => []
  | k + 1, n => UInt8.ofNat (n % 256) :: wordB k (n / 256)
theorem wordB_len (k n : Nat) : (wordB k n).length = k := by
  induction k generalizing n with
  | zero => rfl
  | succ k ih => simp [wordB, ih]
theorem wordB_snoc (k n : Nat) : wordB (k + 1) n = wordB k n ++ [UInt8.ofNat (n / 256 ^ k % 256)] := by
  induction k generalizing n with
  | zero => simp [wordB]
  | succ k ih =>
    rw [wordB, ih (n / 256), wordB, List.cons_append, Nat.div_div_eq_div_mul, ← Nat.pow_succ']

/-- The number that bytes begin with: it, how many bytes it has, the error's number. -/
def firstF : Nat → Nat → List UInt8 → Nat × Nat × Nat
  | _, _, [] => (0, 0, 5)
  | i, acc, x :: r =>
    if (i = 9 ∧ 1 < x.toNat) ∨ (0 < i ∧ x.toNat = 0) then (0, 0, 4)
    else if x.toNat < 128 then (acc + x.toNat % 128 * 2 ^ (7 * i), i + 1, 0)
    else firstF (i + 1) (acc + x.toNat % 128 * 2 ^ (7 * i)) r
def firstB (l : List UInt8) : Nat × Nat × Nat := firstF 0 0 l
theorem first_none (k acc : Nat) (l : List UInt8) (h : l.length ≤ k) : firstF k acc (l.drop k) = (0, 0, 5) := by
  rw [List.drop_eq_nil_of_le h]; rfl
theorem first_bad (k acc x : Nat) (l : List UInt8) (h : k < l.length) (hx : x = l[k].toNat) (hb : (k = 9 ∧ 1 < x) ∨ (0 < k ∧ x = 0)) : firstF k acc (l.drop k) = (0, 0, 4) := by
  rw [List.drop_eq_getElem_cons h, firstF, ← hx, if_pos hb]
theorem first_end (k acc x : Nat) (l : List UInt8) (h : k < l.length) (hx : x = l[k].toNat) (hb : ¬ ((k = 9 ∧ 1 < x) ∨ (0 < k ∧ x = 0))) (he : x < 128) : firstF k acc (l.drop k) = (acc + x % 128 * 2 ^ (7 * k), k + 1, 0) := by
  rw [List.drop_eq_getElem_cons h, firstF, ← hx, if_neg hb, if_pos he]
theorem first_next (k acc x : Nat) (l : List UInt8) (h : k < l.length) (hx : x = l[k].toNat) (hb : ¬ ((k = 9 ∧ 1 < x) ∨ (0 < k ∧ x = 0))) (he : ¬ x < 128) : firstF k acc (l.drop k) = firstF (k + 1) (acc + x % 128 * 2 ^ (7 * k)) (l.drop (k + 1)) := by
  rw [List.drop_eq_getElem_cons h, firstF, ← hx, if_neg hb, if_neg he]
theorem and127 : ∀ a : Fin 256, bits .and .u8 (a.val : Int) 127 = ((a.val % 128 : Nat) : Int) := by decide +kernel
/-- One byte's seven bits, put above what is there. -/
theorem step_or (k acc x : Nat) (hx : x < 256) (ha : acc < 2 ^ (7 * k)) (hk : k ≤ 9) (h9 : k = 9 → x ≤ 1) :
    bits .or .u64 (acc : Int) (IntKind.u64.wrap (IntKind.u64.wrap (bits .and .u8 (x : Int) 127) * 2 ^ (7 * k))) = ((acc + x % 128 * 2 ^ (7 * k) : Nat) : Int) ∧ acc + x % 128 * 2 ^ (7 * k) < 18446744073709551616 := by
  have h1 := and127 ⟨x, hx⟩
  simp only at h1
  have hm : x % 128 < 2 ^ 7 := Nat.mod_lt _ (by omega)
  have hp : x % 128 * 2 ^ (7 * k) + 2 ^ (7 * k) ≤ 18446744073709551616 := by
    by_cases hk9 : k = 9
    · have := h9 hk9
      subst hk9
      have e : x % 128 = x := Nat.mod_eq_of_lt (by omega)
      rw [e]; omega
    · have e : x % 128 * 2 ^ (7 * k) + 2 ^ (7 * k) = (x % 128 + 1) * 2 ^ (7 * k) := by rw [Nat.add_mul]; omega
      rw [e]
      have hq : (2 : Nat) ^ (7 * k) ≤ 2 ^ 56 := Nat.pow_le_pow_right (by omega) (by omega)
      have := Nat.mul_le_mul (show x % 128 + 1 ≤ 128 by omega) hq
      omega
  have h2 : IntKind.u64.wrap ((x % 128 : Nat) : Int) = ((x % 128 : Nat) : Int) := by rw [IntKind.wrap_u64]; omega
  have h3 : ((x % 128 : Nat) : Int) * 2 ^ (7 * k) = ((x % 128 * 2 ^ (7 * k) : Nat) : Int) := by push_cast; rfl
  have h4 : IntKind.u64.wrap ((x % 128 * 2 ^ (7 * k) : Nat) : Int) = ((x % 128 * 2 ^ (7 * k) : Nat) : Int) := by
    have : x % 128 * 2 ^ (7 * k) < 18446744073709551616 := by have : 0 < 2 ^ (7 * k) := Nat.pow_pos (by omega); omega
    rw [IntKind.wrap_u64]; omega
  refine ⟨?_, by omega⟩
  rw [h1, h2, h3, h4, u64_or_nat _ _ (by omega) (by omega), Nat.add_comm, Nat.mul_comm, Nat.or_comm, ← Nat.two_pow_add_eq_or_of_lt ha]

theorem step_lt (k acc x : Nat) (ha : acc < 2 ^ (7 * k)) : acc + x % 128 * 2 ^ (7 * k) < 2 ^ (7 * (k + 1)) := by
  have e : 7 * (k + 1) = 7 + 7 * k := by omega
  rw [e, Nat.pow_add]
  have h : (x % 128 + 1) * 2 ^ (7 * k) ≤ 128 * 2 ^ (7 * k) := Nat.mul_le_mul_right _ (by omega)
  rw [Nat.add_mul] at h
  have : (2 : Nat) ^ 7 = 128 := rfl
  rw [this]
  omega
theorem step_or9 (acc x : Nat) (hx : x ≤ 1) (ha : acc < 2 ^ (7 * 9)) :
    bits .or .u64 (acc : Int) (IntKind.u64.wrap (IntKind.u64.wrap (bits .and .u8 (x : Int) 127) * 9223372036854775808)) = (acc : Int) + (x : Int) % 128 * 9223372036854775808 := by
  have h := (step_or 9 acc x (by omega) ha (by omega) (fun _ => hx)).1
  rw [show (2 : Int) ^ (7 * 9) = 9223372036854775808 from by decide +kernel, show (2 : Nat) ^ (7 * 9) = 9223372036854775808 from by decide +kernel] at h
  rw [h]
  omega

theorem firstF_ok (r : List UInt8) : ∀ (i acc : Nat), i ≤ 9 → acc < 2 ^ (7 * i) → (firstF i acc r).2.2 = 0 → (firstF i acc r).2.1 ≤ i + r.length ∧ (firstF i acc r).1 < 18446744073709551616 := by
  induction r with
  | nil => intro i acc _ _ h; simp [firstF] at h
  | cons x r ih =>
    intro i acc hi ha h
    have hx : x.toNat < 256 := x.toNat_lt
    unfold firstF at h ⊢
    by_cases hb : (i = 9 ∧ 1 < x.toNat) ∨ (0 < i ∧ x.toNat = 0)
    · rw [if_pos hb] at h; simp at h
    · rw [if_neg hb] at h ⊢
      have hs := (step_or i acc x.toNat hx ha hi (by omega)).2
      by_cases he : x.toNat < 128
      · rw [if_pos he] at h ⊢
        simp only [List.length_cons]
        exact ⟨by omega, hs⟩
      · rw [if_neg he] at h ⊢
        have := ih (i + 1) _ (by omega) (step_lt i acc x.toNat ha) h
        simp only [List.length_cons]
        omega
theorem firstB_ok (l : List UInt8) (h : (firstB l).2.2 = 0) : (firstB l).2.1 ≤ l.length ∧ (firstB l).1 < 18446744073709551616 := by
  have := firstF_ok l 0 0 (by omega) (by simp) h
  unfold firstB
  omega
theorem firstF_err (r : List UInt8) : ∀ (i acc : Nat), (firstF i acc r).2.2 = 0 ∨ ((firstF i acc r).2.2 = 4 ∨ (firstF i acc r).2.2 = 5) ∧ (firstF i acc r).1 = 0 := by
  induction r with
  | nil => intro i acc; simp [firstF]
  | cons x r ih =>
    intro i acc
    unfold firstF
    split
    · simp
    · split
      · simp
      · exact ih _ _

/-- What a reader's Upto tells: the number, what is left, the error. -/
def uptoB (l : List UInt8) (e most : Nat) : Nat × List UInt8 × Nat :=
  if e ≠ 0 then (0, l, e) else if (firstB l).2.2 ≠ 0 then (0, l, (firstB l).2.2) else if most < (firstB l).1 then (0, l.drop (firstB l).2.1, 3) else ((firstB l).1, l.drop (firstB l).2.1, 0)
/-- What a reader's take tells: the bytes, what is left, the error. -/
def takeB (l : List UInt8) (skip n : Nat) : List UInt8 × List UInt8 × Nat :=
  if skip + n ≤ l.length then ((l.drop skip).take n, l.drop (skip + n), 0) else ([], l, 5)
def blockB (l : List UInt8) (e : Nat) : List UInt8 × List UInt8 × Nat :=
  if e ≠ 0 then ([], l, e) else if (firstB l).2.2 ≠ 0 then ([], l, (firstB l).2.2) else takeB l (firstB l).2.1 (firstB l).1
def fixedB (l : List UInt8) (e n : Nat) : List UInt8 × List UInt8 × Nat := if e ≠ 0 then ([], l, e) else takeB l 0 n
/-- A word's number. -/
def wordN : List UInt8 → Nat
  | [] => 0
  | x :: r => x.toNat + 256 * wordN r
def wordR (l : List UInt8) (e : Nat) (k : Int) : Nat × List UInt8 × Nat :=
  if e ≠ 0 then (0, l, e) else if k = 2 ∨ k = 4 ∨ k = 8 then (wordN (takeB l 0 k.toNat).1, (takeB l 0 k.toNat).2.1, (takeB l 0 k.toNat).2.2) else (0, l, 4)

theorem wordN_snoc (l : List UInt8) (x : UInt8) : wordN (l ++ [x]) = wordN l + x.toNat * 256 ^ l.length := by
  induction l with
  | nil => simp [wordN]
  | cons y l ih =>
    simp only [List.cons_append, wordN, ih, List.length_cons, Nat.pow_succ, Nat.mul_add]
    rw [← Nat.mul_assoc, Nat.mul_comm 256 x.toNat, Nat.mul_assoc, Nat.mul_comm 256 (256 ^ l.length)]
    omega
theorem wordN_lt (l : List UInt8) : wordN l < 256 ^ l.length := by
  induction l with
  | nil => simp [wordN]
  | cons y l ih =>
    have hy : y.toNat < 256 := y.toNat_lt
    simp only [wordN, List.length_cons, Nat.pow_succ]
    omega
/-- One byte more of a word, as the walk reckons it. -/
theorem word_step (m : List UInt8) (k : Nat) (hk : k < m.length) (h8 : m.length ≤ 8) :
    bits .or .u64 (wordN (m.take k) : Int) (IntKind.u64.wrap ((m[k].toNat : Int) * 2 ^ (8 * k))) = (wordN (m.take (k + 1)) : Int) := by
  have hx : m[k].toNat < 256 := m[k].toNat_lt
  have ha := wordN_lt (m.take k)
  have hl : (m.take k).length = k := by rw [List.length_take]; omega
  rw [hl] at ha
  have e1 : wordN (m.take (k + 1)) = wordN (m.take k) + m[k].toNat * 256 ^ k := by
    rw [List.take_succ_eq_append_getElem hk, wordN_snoc, hl]
  rw [e1]
  generalize m[k].toNat = x at *
  generalize wordN (m.take k) = a at *
  have e2 : (256 : Nat) ^ k = 2 ^ (8 * k) := by rw [show (256 : Nat) = 2 ^ 8 from rfl, ← Nat.pow_mul]
  rw [e2] at ha ⊢
  have hp : x * 2 ^ (8 * k) + 2 ^ (8 * k) ≤ 18446744073709551616 := by
    have e : x * 2 ^ (8 * k) + 2 ^ (8 * k) = (x + 1) * 2 ^ (8 * k) := by rw [Nat.add_mul]; omega
    rw [e]
    have hq : (2 : Nat) ^ (8 * k) ≤ 2 ^ 56 := Nat.pow_le_pow_right (by omega) (by omega)
    have := Nat.mul_le_mul (show x + 1 ≤ 256 by omega) hq
    omega
  have h3 : (x : Int) * 2 ^ (8 * k) = ((x * 2 ^ (8 * k) : Nat) : Int) := by push_cast; rfl
  have h4 : IntKind.u64.wrap ((x * 2 ^ (8 * k) : Nat) : Int) = ((x * 2 ^ (8 * k) : Nat) : Int) := by
    have : x * 2 ^ (8 * k) < 18446744073709551616 := by have : 0 < 2 ^ (8 * k) := Nat.pow_pos (by omega); omega
    rw [IntKind.wrap_u64]; omega
  rw [h3, h4, u64_or_nat _ _ (by omega) (by omega), Nat.add_comm, Nat.mul_comm, Nat.or_comm, ← Nat.two_pow_add_eq_or_of_lt ha]

/-- A word's bytes at whatever width. -/
def wordK (k : Int) (n : Nat) : List UInt8 := if k = 2 ∨ k = 4 ∨ k = 8 then wordB k.toNat n else []
theorem wordK_len (k : Int) (n : Nat) : (wordK k n).length ≤ 8 := by
  unfold wordK
  split
  · rw [wordB_len]; omega
  · simp

theorem wordB_add (a b n : Nat) : wordB (a + b) n = wordB a n ++ wordB b (n / 256 ^ a) := by
  induction a generalizing n with
  | zero => simp [wordB]
  | succ a ih =>
    rw [show a + 1 + b = (a + b) + 1 by omega, wordB, ih, wordB, List.cons_append, Nat.div_div_eq_div_mul, ← Nat.pow_succ']
theorem numF_mono (f : Nat) : ∀ n m : Nat, n ≤ m → (numF f n).length ≤ (numF f m).length := by
  induction f with
  | zero => intro n m _; simp [numF]
  | succ f ih =>
    intro n m h
    by_cases hn : n < 128
    · rw [numF_small _ _ hn]
      exact (numF_len (f + 1) m).1
    · rw [numF_step _ _ (by omega), numF_step _ _ (by omega), List.length_cons, List.length_cons]
      have := ih (n / 128) (m / 128) (Nat.div_le_div_right h)
      omega

end Go.Proofs.Ythakkaffjnkhgaa
