/-
  Spaces as plain lists of bools: which may be, what each call answers, their bits and bytes; what is told of them. Conditions: none.
-/
import Derived.Test.YtncjobeahpjnpaaNum2
namespace Go.Proofs.Ytncjobeahpjnpaa
set_option maxRecDepth 100000

/-- Which pages are told, below k. -/
def idxN (l : List Bool) (u : Bool) (k : Nat) : List Nat := (List.range k).filter fun n => l[n]? == some u
theorem idxN_succ (l : List Bool) (u : Bool) (k : Nat) : idxN l u (k + 1) = idxN l u k ++ (if l[k]? == some u then [k] else []) := by
  unfold idxN
  rw [List.range_succ, List.filter_append]
  congr 1
  simp only [List.filter_cons, List.filter_nil]
def spFree (l : List Bool) : List Nat := idxN l false l.length

/-- A space may be. -/
def spOk (p : Int) (l : List Bool) : Prop := 8 ≤ p ∧ p ≤ 4096 ∧ (l.length : Int) = p ∧ l[0]? = some true ∧ l[1]? = some true
instance (p : Int) (l : List Bool) : Decidable (spOk p l) := by unfold spOk; infer_instance
def spUse (p : Int) (l : List Bool) (n : Int) : Int × List Bool × Nat :=
  if ¬ spOk p l ∨ n < 0 ∨ p ≤ n then (0, [], 2) else if l[n.toNat]? = some true then (0, [], 7) else (p, l.set n.toNat true, 0)
def spGive (p : Int) (l : List Bool) (n : Int) : Int × List Bool × Nat :=
  if ¬ spOk p l ∨ n < 2 ∨ p ≤ n then (0, [], 2) else if l[n.toNat]? = some false then (0, [], 6) else (p, l.set n.toNat false, 0)
def spTake (p : Int) (l : List Bool) : Nat × Int × List Bool × Nat :=
  if ¬ spOk p l then (0, 0, [], 2) else match spFree l with
    | [] => (0, 0, [], 9)
    | x :: _ => (x, p, l.set x true, 0)
def spOr (l m : List Bool) : List Bool := List.zipWith (· || ·) l m
def spBoth (p : Int) (l : List Bool) (q : Int) (m : List Bool) : Int × List Bool × Nat :=
  if ¬ spOk p l ∨ ¬ spOk q m ∨ p ≠ q then (0, [], 2) else (p, spOr l m, 0)
def spFreeC (p : Int) (l : List Bool) : List Nat := if spOk p l then spFree l else []
def spNew (p : Int) : Int × List Bool × Nat := if 8 ≤ p ∧ p ≤ 4096 then (p, true :: true :: List.replicate (p.toNat - 2) false, 0) else (0, [], 2)

/-- Bits as numbers and bytes. -/
def bsum (f : Nat → Bool) : Nat → Nat
  | 0 => 0
  | k + 1 => bsum f k + if f k then 2 ^ k else 0
theorem bsum_lt (f : Nat → Bool) (k : Nat) : bsum f k < 2 ^ k := by
  induction k with
  | zero => simp [bsum]
  | succ k ih => rw [bsum, Nat.pow_succ]; split <;> omega
theorem bsum_bit (f : Nat → Bool) (k i : Nat) : (bsum f k).testBit i = (decide (i < k) && f i) := by
  induction k with
  | zero => simp [bsum]
  | succ k ih =>
    rw [bsum]
    have hlt := bsum_lt f k
    by_cases hf : f k = true
    · rw [if_pos hf, Nat.add_comm]
      by_cases hi : i < k
      · rw [Nat.testBit_two_pow_add_gt hi, ih]; simp [hi, show i < k + 1 by omega]
      · by_cases he : i = k
        · subst he
          rw [Nat.testBit_two_pow_add_eq, ih]; simp [hf]
        · rw [Nat.testBit_lt_two_pow]
          · simp [show ¬ i < k + 1 by omega]
          · have : 2 ^ (k + 1) ≤ 2 ^ i := Nat.pow_le_pow_right (by omega) (by omega)
            rw [Nat.pow_succ] at this
            omega
    · rw [if_neg hf, Nat.add_zero, ih]
      by_cases he : i = k
      · subst he; simp [hf]
      · simp [show i < k ↔ i < k + 1 by omega]
theorem bsum_congr {f g : Nat → Bool} (k : Nat) (h : ∀ i, i < k → f i = g i) : bsum f k = bsum g k := by
  induction k with
  | zero => rfl
  | succ k ih => rw [bsum, bsum, ih fun i hi => h i (by omega), h k (by omega)]
def bitsF (m : Nat) (f : Nat → Bool) : List UInt8 := (List.range m).map fun j => UInt8.ofNat (bsum (fun i => f (8 * j + i)) 8)
theorem bitsF_len (m : Nat) (f : Nat → Bool) : (bitsF m f).length = m := by simp [bitsF]
theorem bitsF_get (m : Nat) (f : Nat → Bool) (j : Nat) (h : j < m) : (bitsF m f)[j]'(by rw [bitsF_len]; exact h) = UInt8.ofNat (bsum (fun i => f (8 * j + i)) 8) := by simp [bitsF]
theorem bitsF_nat (m : Nat) (f : Nat → Bool) (j : Nat) (h : j < m) : ((bitsF m f)[j]'(by rw [bitsF_len]; exact h)).toNat = bsum (fun i => f (8 * j + i)) 8 := by
  rw [bitsF_get m f j h, UInt8.toNat_ofNat']
  have := bsum_lt (fun i => f (8 * j + i)) 8
  exact Nat.mod_eq_of_lt (by omega)
theorem bitsF_congr (m : Nat) {f g : Nat → Bool} (h : ∀ n, n < 8 * m → f n = g n) : bitsF m f = bitsF m g := by
  unfold bitsF
  refine List.map_congr_left fun j hj => ?_
  rw [List.mem_range] at hj
  rw [bsum_congr 8 fun i hi => h (8 * j + i) (by omega)]
theorem bitsF_none (m : Nat) : bitsF m (fun _ => false) = List.replicate m 0 := by
  unfold bitsF
  have : (fun j : Nat => UInt8.ofNat (bsum (fun _ => false) 8)) = fun _ => 0 := by funext j; rfl
  rw [this]
  simp [List.map_const']
/-- A byte's bit. -/
def bitAt (b : List UInt8) (n : Nat) : Bool := ((b.getD (n / 8) 0).toNat).testBit (n % 8)
theorem bitAt_F (m : Nat) (f : Nat → Bool) (n : Nat) (h : n / 8 < m) : bitAt (bitsF m f) n = f n := by
  unfold bitAt
  rw [List.getD_eq_getElem?_getD, List.getElem?_eq_getElem (by rw [bitsF_len]; exact h), Option.getD_some, bitsF_nat m f _ h, bsum_bit]
  rw [decide_eq_true (by omega), Bool.true_and, Nat.div_add_mod]
/-- A bit set. -/
theorem bsum_set (f : Nat → Bool) (i : Nat) (h : i < 8) : bsum (fun k => f k || k == i) 8 = bsum f 8 ||| 2 ^ i := by
  apply Nat.eq_of_testBit_eq
  intro k
  rw [Nat.testBit_or, bsum_bit, bsum_bit, Nat.testBit_two_pow]
  by_cases hk : k = i
  · subst hk; simp [h]
  · by_cases h8 : k < 8 <;> simp [h8, hk, show ¬ i = k from fun e => hk e.symm]
theorem bitsF_set (m : Nat) (f : Nat → Bool) (x : Nat) : bitsF m (fun n => f n || n == x) = (bitsF m f).set (x / 8) (UInt8.ofNat (bsum (fun i => f (8 * (x / 8) + i)) 8 ||| 2 ^ (x % 8))) := by
  apply List.ext_getElem
  · simp [bitsF_len]
  · intro j h1 h2
    rw [bitsF_len] at h1
    rw [bitsF_get m _ j h1, List.getElem_set]
    by_cases e : x / 8 = j
    · subst e
      rw [if_pos rfl, ← bsum_set _ _ (Nat.mod_lt _ (by omega))]
      congr 1
      refine bsum_congr 8 fun i hi => ?_
      congr 1
      rw [Bool.eq_iff_iff]
      simp only [beq_iff_eq]
      omega
    · rw [if_neg e, bitsF_get m f j h1]
      congr 1
      refine bsum_congr 8 fun i hi => ?_
      have : ¬ (8 * j + i = x) := by omega
      simp [this]

/-- A space's bytes. -/
def spM (p : Nat) : Nat := (p + 7) / 8
def spBits (l : List Bool) : List UInt8 := bitsF (spM l.length) fun n => l[n]? == some true
def spB (p : Int) (l : List Bool) : List UInt8 := wordB 4 p.toNat ++ spBits l
def spBytes (p : Int) (l : List Bool) : List UInt8 × Nat := if spOk p l then (spB p l, 0) else ([], 2)
theorem spB_len (p : Int) (l : List Bool) : (spB p l).length = 4 + spM l.length := by simp [spB, spBits, bitsF_len, wordB_len]
/-- What is read. -/
def spT (b : List UInt8) (p : Nat) : List Bool := (List.range p).map (bitAt (b.drop 4))
theorem spT_len (b : List UInt8) (p : Nat) : (spT b p).length = p := by simp [spT]
def spIs (b : List UInt8) : Prop := 4 ≤ b.length ∧ b.length = 4 + spM (wordN (b.take 4)) ∧ spOk (wordN (b.take 4) : Int) (spT b (wordN (b.take 4))) ∧ spB (wordN (b.take 4) : Int) (spT b (wordN (b.take 4))) = b
instance (b : List UInt8) : Decidable (spIs b) := by unfold spIs; infer_instance
def spRead (b : List UInt8) : Int × List Bool × Nat := if spIs b then ((wordN (b.take 4) : Int), spT b (wordN (b.take 4)), 0) else (0, [], 4)

theorem spOk_len {p : Int} {l : List Bool} (h : spOk p l) : (l.length : Int) = p ∧ 8 ≤ l.length ∧ l.length ≤ 4096 := by
  obtain ⟨h1, h2, h3, _⟩ := h
  omega
theorem spT_B {l : List Bool} {p : Int} (_h : spOk p l) : spT (spB p l) l.length = l := by
  apply List.ext_getElem
  · rw [spT_len]
  · intro n h1 h2
    rw [spT_len] at h1
    have hd : (spB p l).drop 4 = spBits l := by
      unfold spB
      rw [List.drop_append, wordB_len, List.drop_of_length_le (by rw [wordB_len]; omega)]
      simp
    simp only [spT, List.getElem_map, List.getElem_range, hd]
    rw [spBits, bitAt_F _ _ _ (by unfold spM; omega), List.getElem?_eq_getElem h2]
    cases l[n] <;> rfl
theorem wordN_B {l : List Bool} {p : Int} (h : spOk p l) (r : List UInt8) : wordN ((spB p l ++ r).take 4) = l.length := by
  have hl := spOk_len h
  have e : (spB p l ++ r).take 4 = wordB 4 p.toNat := by
    unfold spB
    rw [List.append_assoc, List.take_append_of_le_length (by rw [wordB_len]; omega), List.take_of_length_le (by rw [wordB_len]; omega)]
  rw [e, wordN_word]
  omega
theorem spIs_of {b : List UInt8} {n : Nat} (hw : wordN (b.take 4) = n) : spIs b ↔ (4 ≤ b.length ∧ b.length = 4 + spM n ∧ spOk (n : Int) (spT b n) ∧ spB (n : Int) (spT b n) = b) := by
  subst hw
  exact Iff.rfl
theorem spRead_not {b : List UInt8} (h : ¬ spIs b) : spRead b = (0, [], 4) := if_neg h
theorem spRead_B {l : List Bool} {p : Int} (h : spOk p l) : spRead (spB p l) = (p, l, 0) := by
  have hw := wordN_B h []
  rw [List.append_nil] at hw
  have hl := spOk_len h
  have hi : spIs (spB p l) := by
    rw [spIs_of hw, spT_B h, hl.1, spB_len]
    exact ⟨by omega, rfl, h, rfl⟩
  unfold spRead
  rw [if_pos hi, hw, spT_B h, hl.1]
theorem spRead_one {b : List UInt8} (h : (spRead b).2.2 = 0) : spBytes (spRead b).1 (spRead b).2.1 = (b, 0) := by
  unfold spRead at h ⊢
  by_cases hi : spIs b
  · rw [if_pos hi]
    obtain ⟨_, _, h3, h4⟩ := hi
    unfold spBytes
    rw [if_pos h3, h4]
  · rw [if_neg hi] at h; simp at h
theorem spRead_err (b : List UInt8) : (spRead b).2.2 = 0 ∨ spRead b = (0, [], 4) := by
  unfold spRead
  split
  · exact .inl rfl
  · exact .inr rfl
theorem spRead_cut {l : List Bool} {p : Int} (h : spOk p l) : spRead ((spB p l).take ((spB p l).length - 1)) = (0, [], 4) := by
  have hl := spOk_len h
  have hlen := spB_len p l
  have hm : 1 ≤ spM l.length := by unfold spM; omega
  have hw : wordN (((spB p l).take ((spB p l).length - 1)).take 4) = l.length := by
    have := wordN_B h []
    rw [List.append_nil] at this
    rw [List.take_take, Nat.min_eq_left (show 4 ≤ (spB p l).length - 1 by rw [hlen]; omega)]
    exact this
  refine spRead_not fun hi => ?_
  obtain ⟨_, h2, _⟩ := (spIs_of hw).1 hi
  rw [List.length_take, hlen] at h2
  omega
theorem spRead_more {l : List Bool} {p : Int} (h : spOk p l) : spRead (spB p l ++ [0]) = (0, [], 4) := by
  have hlen := spB_len p l
  refine spRead_not fun hi => ?_
  obtain ⟨_, h2, _⟩ := (spIs_of (wordN_B h [0])).1 hi
  rw [List.length_append, hlen, List.length_singleton] at h2
  omega

/-! What changes by one page. -/
theorem spOk_set {p : Int} {l : List Bool} (h : spOk p l) {n : Nat} (b : Bool) (hn : 2 ≤ n ∨ b = true) : spOk p (l.set n b) := by
  obtain ⟨h1, h2, h3, h4, h5⟩ := h
  refine ⟨h1, h2, by rw [List.length_set]; exact h3, ?_, ?_⟩
  · rw [List.getElem?_set]
    split
    · rename_i e
      subst e
      rcases hn with hn | rfl
      · omega
      · rw [if_pos (by omega)]
    · exact h4
  · rw [List.getElem?_set]
    split
    · rename_i e
      subst e
      rcases hn with hn | rfl
      · omega
      · rw [if_pos (by omega)]
    · exact h5
theorem idx_mem {l : List Bool} {u : Bool} {k n : Nat} : n ∈ idxN l u k ↔ n < k ∧ l[n]? = some u := by simp [idxN]
theorem spFree_ge {p : Int} {l : List Bool} (h : spOk p l) {n : Nat} (hn : n ∈ spFree l) : 2 ≤ n ∧ n < l.length ∧ l[n]? = some false := by
  obtain ⟨h1, h2, h3, h4, h5⟩ := h
  obtain ⟨h6, h7⟩ := idx_mem.1 hn
  refine ⟨?_, h6, h7⟩
  rcases Nat.lt_or_ge n 2 with h | h
  · have : n = 0 ∨ n = 1 := by omega
    rcases this with rfl | rfl
    · rw [h4] at h7; cases h7
    · rw [h5] at h7; cases h7
  · exact h
/-- The least free page taken: the others are left. -/
theorem free_set {l : List Bool} {x : Nat} {r : List Nat} (h : spFree l = x :: r) : spFree (l.set x true) = r := by
  have hnd : (spFree l).Nodup := by unfold spFree idxN; exact List.Nodup.sublist List.filter_sublist List.nodup_range
  rw [h, List.nodup_cons] at hnd
  have e : spFree (l.set x true) = (spFree l).filter (fun n => n != x) := by
    unfold spFree idxN
    rw [List.length_set, List.filter_filter]
    refine List.filter_congr fun n hn => ?_
    rw [List.getElem?_set]
    by_cases e : x = n
    · subst e
      rw [List.mem_range] at hn
      simp [hn]
    · have e' : ¬ n = x := fun h => e h.symm
      simp [e, e']
  rw [e, h, List.filter_cons]
  simp only [bne_self_eq_false, Bool.false_eq_true, if_false]
  rw [List.filter_eq_self]
  intro a ha
  rw [bne_iff_ne]
  rintro rfl
  exact hnd.1 ha
theorem set_back {l : List Bool} {n : Nat} {b : Bool} (c : Bool) (h : l[n]? = some b) : (l.set n c).set n b = l := by
  rw [List.set_set]
  apply List.ext_getElem?
  intro k
  rw [List.getElem?_set]
  split
  · rename_i e
    subst e
    obtain ⟨h1, h2⟩ := List.getElem?_eq_some_iff.1 h
    rw [if_pos h1, h]
  · rfl
theorem free_count (l : List Bool) : (spFree l).length = l.count false := by
  unfold spFree idxN
  have : ∀ k, k ≤ l.length → ((List.range k).filter fun n => l[n]? == some false).length = (l.take k).count false := by
    intro k
    induction k with
    | zero => intro _; simp
    | succ k ih =>
      intro hk
      rw [List.range_succ, List.filter_append, List.length_append, ih (by omega), List.take_succ_eq_append_getElem (by omega), List.count_append]
      have e : l[k]? = some l[k] := List.getElem?_eq_getElem (by omega)
      simp only [List.filter_cons, List.filter_nil, e]
      cases l[k] <;> simp
  rw [this l.length (Nat.le_refl _), List.take_length]
theorem count_use {l : List Bool} {n : Nat} (h : l[n]? = some false) : (spFree (l.set n true)).length + 1 = (spFree l).length := by
  obtain ⟨h1, h2⟩ := List.getElem?_eq_some_iff.1 h
  have h0 : 0 < l.count false := List.count_pos_iff.2 (by rw [← h2]; exact List.getElem_mem h1)
  rw [free_count, free_count, List.count_set h1, h2]
  simp
  omega
theorem count_give {l : List Bool} {n : Nat} (h : l[n]? = some true) : (spFree (l.set n false)).length = (spFree l).length + 1 := by
  obtain ⟨h1, h2⟩ := List.getElem?_eq_some_iff.1 h
  rw [free_count, free_count, List.count_set h1, h2]
  simp
end Go.Proofs.Ytncjobeahpjnpaa
