/-
  The texts of package page that PageDisk needs, in one. Conditions: as each part says.
-/
import Derived.Test.YtagchbpofoidmaaDoorNum2
import Derived.Test.YtagchbpofoidmaaDoorCrc
import Derived.Test.YtagchbpofoidmaaDoorText
import Derived.Test.YtagchbpofoidmaaDoorRowq
import Derived.Test.YtagchbpofoidmaaDoorOct2
import Derived.Test.YtagchbpofoidmaaDoorParts
import Derived.Test.YtagchbpofoidmaaDoorOrd
import Derived.Test.YtagchbpofoidmaaDoorSecF
import Derived.Test.YtagchbpofoidmaaDoorOrdT
import Derived.Lib.BufferWrite
import Derived.Test.YtagchbpofoidmaaDoorRead5
import Derived.Test.YtagchbpofoidmaaDoorSecC
import Derived.Test.YtagchbpofoidmaaDoorOpen
import Derived.Deep.Slices
import Derived.Deep.Strs
import Derived.Test.YtagchbpofoidmaaDoorCrc2
import Derived.LaidMore
import Derived.Lay
import Derived.SevenTiedAt
import Derived.Stop.Joined
import Derived.Test.YtagchbpofoidmaaDoorTie
import Derived.Test.YtagchbpofoidmaaDoorCards
import Derived.Test.YtagchbpofoidmaaDoorRef1
import Derived.Lib.AppendStr
import Derived.Test.YtagchbpofoidmaaDoorRef3
import Derived.Test.YtagchbpofoidmaaDoorSecL
import Derived.Defers
import Derived.Test.YtagchbpofoidmaaDoorSecN
import Derived.Test.YtagchbpofoidmaaDoorSecY
/-
  Pages as plain bytes: what a page's bytes are, which bytes are a page's, and that one byte turned is none. Plain functions; no program is named here.
-/
namespace Go.Proofs.YtagchbpofoidmaaDoor
set_option maxRecDepth 100000
set_option maxRecDepth 100000

/-! Noughts at the end. -/
def trimR : List UInt8 → List UInt8
  | [] => []
  | x :: l => match trimR l with
    | [] => if x = 0 then [] else [x]
    | y :: m => x :: y :: m
theorem trimR_cons (x : UInt8) (l : List UInt8) : trimR (x :: l) = if trimR l = [] then (if x = 0 then [] else [x]) else x :: trimR l := by
  rw [trimR]
  cases trimR l with
  | nil => simp
  | cons y m => simp
theorem trimR_zero (l : List UInt8) : trimR (l ++ [0]) = trimR l := by
  induction l with
  | nil => rfl
  | cons x l ih => rw [List.cons_append, trimR_cons, trimR_cons, ih]
theorem trimR_last (l : List UInt8) (x : UInt8) (h : x ≠ 0) : trimR (l ++ [x]) = l ++ [x] := by
  induction l with
  | nil => simp [trimR, h]
  | cons y l ih => rw [List.cons_append, trimR_cons, ih]; simp
theorem trimR_zeros (l : List UInt8) (n : Nat) : trimR (l ++ List.replicate n 0) = trimR l := by
  induction n with
  | zero => simp
  | succ n ih => rw [List.replicate_succ', ← List.append_assoc, trimR_zero, ih]
theorem trimR_len (l : List UInt8) : (trimR l).length ≤ l.length := by
  induction l with
  | nil => simp [trimR]
  | cons x l ih =>
    rw [trimR_cons]
    split
    · split <;> simp
    · simp; omega
theorem trimR_is (l : List UInt8) : l = trimR l ++ List.replicate (l.length - (trimR l).length) 0 := by
  induction l with
  | nil => rfl
  | cons x l ih =>
    rw [trimR_cons]
    have hl := trimR_len l
    by_cases h : trimR l = []
    · rw [if_pos h]
      rw [h] at ih
      simp at ih
      by_cases hx : x = 0
      · rw [if_pos hx, hx, List.nil_append]
        conv => lhs; rw [ih]
        simp [List.replicate_succ]
      · rw [if_neg hx]
        conv => lhs; rw [ih]
        simp
    · rw [if_neg h]
      conv => lhs; rw [ih]
      simp
theorem trimR_getD (l : List UInt8) (i : Nat) : (trimR l).getD i 0 = l.getD i 0 := by
  conv => rhs; rw [trimR_is l]
  simp only [List.getD_eq_getElem?_getD, List.getElem?_append, List.getElem?_replicate]
  split
  · rfl
  · rename_i h
    rw [List.getElem?_eq_none (by omega)]
    split <;> rfl
theorem trimR_end (l : List UInt8) (h : trimR l ≠ []) : (trimR l).getLast h ≠ 0 := by
  induction l with
  | nil => exact absurd rfl h
  | cons x l ih =>
    by_cases hl : trimR l = []
    · by_cases hx : x = 0
      · exact absurd (by rw [trimR_cons, if_pos hl, if_pos hx]) h
      · have e : trimR (x :: l) = [x] := by rw [trimR_cons, if_pos hl, if_neg hx]
        simp only [e, List.getLast_singleton]
        exact hx
    · have e : trimR (x :: l) = x :: trimR l := by rw [trimR_cons, if_neg hl]
      simp only [e, List.getLast_cons hl]
      exact ih hl
theorem trimR_longer {l m : List UInt8} (h : ∀ i, l.getD i 0 = m.getD i 0) : (trimR m).length ≤ (trimR l).length := by
  rcases Nat.lt_or_ge (trimR l).length (trimR m).length with hlt | hge
  · exfalso
    have hne : trimR m ≠ [] := by intro e; rw [e] at hlt; simp at hlt
    refine trimR_end m hne ?_
    have h1 := h ((trimR m).length - 1)
    rw [← trimR_getD l, ← trimR_getD m] at h1
    rw [List.getLast_eq_getElem hne]
    have h2 : (trimR m).getD ((trimR m).length - 1) 0 = (trimR m)[(trimR m).length - 1]'(by omega) := by
      rw [List.getD_eq_getElem?_getD, List.getElem?_eq_getElem (by omega)]; rfl
    rw [← h2, ← h1, List.getD_eq_getElem?_getD, List.getElem?_eq_none (by omega)]
    rfl
  · exact hge
theorem trimR_iff (l m : List UInt8) : trimR l = trimR m ↔ ∀ i, l.getD i 0 = m.getD i 0 := by
  constructor
  · intro h i
    rw [← trimR_getD l, ← trimR_getD m, h]
  · intro h
    have hlen : (trimR l).length = (trimR m).length := Nat.le_antisymm (trimR_longer fun i => (h i).symm) (trimR_longer h)
    refine List.ext_getElem hlen fun i h1 h2 => ?_
    have := h i
    rw [← trimR_getD l, ← trimR_getD m, List.getD_eq_getElem?_getD, List.getD_eq_getElem?_getD, List.getElem?_eq_getElem h1, List.getElem?_eq_getElem h2] at this
    exact this

/-! A page's bytes. -/
def zsB (n : Nat) : List UInt8 := List.replicate n 0
theorem zsB_len (n : Nat) : (zsB n).length = n := by simp [zsB]
def padB (l : List UInt8) : List UInt8 := l ++ zsB (4080 - l.length)
theorem padB_len {l : List UInt8} (h : l.length ≤ 4080) : (padB l).length = 4080 := by unfold padB; rw [List.length_append, zsB_len]; omega
theorem padB_full {l : List UInt8} (h : l.length = 4080) : padB l = l := by unfold padB zsB; rw [h]; simp
theorem padB_trim (l : List UInt8) : trimR (padB l) = trimR l := trimR_zeros _ _
theorem padB_iff {l m : List UInt8} (hl : l.length ≤ 4080) (hm : m.length ≤ 4080) : padB l = padB m ↔ trimR l = trimR m := by
  constructor
  · intro h; rw [← padB_trim l, ← padB_trim m, h]
  · intro h
    rw [trimR_is (padB l), trimR_is (padB m), padB_trim, padB_trim, padB_len hl, padB_len hm, h]
def headB (k n : Nat) : List UInt8 := [84, 77, 1, UInt8.ofNat k] ++ (wordB 4 n ++ zsB 4)
theorem headB_len (k n : Nat) : (headB k n).length = 12 := by simp [headB, wordB_len, zsB_len]
/-- The sum of a page's bytes, with noughts in its place. -/
def sumB (l : List UInt8) : Nat := sumC (l.take 12 ++ zsB 4 ++ l.drop 16)
theorem sumB_lt (l : List UInt8) : sumB l < 4294967296 := sumC_lt _
def pageB (k n : Nat) (l : List UInt8) : List UInt8 := headB k n ++ (wordB 4 (sumC (headB k n ++ zsB 4 ++ padB l)) ++ padB l)
theorem pageB_len {k n : Nat} {l : List UInt8} (h : l.length ≤ 4080) : (pageB k n l).length = 4096 := by
  unfold pageB
  rw [List.length_append, List.length_append, headB_len, wordB_len, padB_len h]
/-- Bytes that are a page's. -/
def okB (l : List UInt8) : Prop := (l.length = 4096 ∧ l.take 3 = [84, 77, 1]) ∧ (1 ≤ (l.getD 3 0).toNat ∧ (l.getD 3 0).toNat ≤ 7) ∧ (l.drop 8).take 4 = zsB 4 ∧ (l.drop 12).take 4 = wordB 4 (sumB l)
instance (l : List UInt8) : Decidable (okB l) := by unfold okB; infer_instance
def kindB (l : List UInt8) : Nat := if okB l then (l.getD 3 0).toNat else 0
def numW (l : List UInt8) : Nat := wordN ((l.drop 4).take 4)
theorem numW_lt (l : List UInt8) : numW l < 4294967296 := by
  have h := wordN_lt ((l.drop 4).take 4)
  have h2 : ((l.drop 4).take 4).length ≤ 4 := by rw [List.length_take]; omega
  have h3 : 256 ^ ((l.drop 4).take 4).length ≤ 256 ^ 4 := Nat.pow_le_pow_right (by omega) h2
  unfold numW
  omega
theorem kindB_zero (l : List UInt8) : kindB l = 0 ↔ ¬ okB l := by
  unfold kindB
  by_cases h : okB l
  · rw [if_pos h]
    have := h.2.1.1
    constructor
    · intro e; omega
    · intro e; exact absurd h e
  · rw [if_neg h]; simp [h]
theorem kindB_ok {l : List UInt8} (h : okB l) : kindB l = (l.getD 3 0).toNat := if_pos h
theorem pageB_take (k n : Nat) (l : List UInt8) : (pageB k n l).take 12 = headB k n := by
  unfold pageB; exact List.take_left' (headB_len k n)
theorem pageB_drop12 (k n : Nat) (l : List UInt8) : (pageB k n l).drop 12 = wordB 4 (sumC (headB k n ++ zsB 4 ++ padB l)) ++ padB l := by
  unfold pageB; exact List.drop_left' (headB_len k n)
theorem pageB_drop (k n : Nat) (l : List UInt8) : (pageB k n l).drop 16 = padB l := by
  have : (pageB k n l).drop 16 = ((pageB k n l).drop 12).drop 4 := by rw [List.drop_drop]
  rw [this, pageB_drop12]
  exact List.drop_left' (wordB_len 4 _)
theorem pageB_sum (k n : Nat) (l : List UInt8) : sumB (pageB k n l) = sumC (headB k n ++ zsB 4 ++ padB l) := by
  unfold sumB; rw [pageB_take, pageB_drop]
theorem pageB_kind (k n : Nat) (l : List UInt8) (h : k < 256) : ((pageB k n l).getD 3 0).toNat = k := by
  unfold pageB headB
  simp
  omega
theorem wordN_four {n : Nat} (h : n < 4294967296) : wordN (wordB 4 n) = n := by rw [wordN_word]; omega
theorem wordB_four {l : List UInt8} (h : l.length = 4) : wordB 4 (wordN l) = l := by
  match l, h with
  | [a, b, c, d], _ =>
    have ha := a.toNat_lt
    have hb := b.toNat_lt
    have hc := c.toNat_lt
    have hd := d.toNat_lt
    simp only [wordN, wordB, List.cons.injEq, and_true]
    refine ⟨?_, ?_, ?_, ?_⟩ <;> apply UInt8.toNat_inj.1 <;> rw [u8n] <;> omega
theorem wordB_inj4 {a b : Nat} (ha : a < 4294967296) (hb : b < 4294967296) (h : wordB 4 a = wordB 4 b) : a = b := by
  rw [← wordN_four ha, ← wordN_four hb, h]
theorem pageB_num (k n : Nat) (l : List UInt8) (h : n < 4294967296) : numW (pageB k n l) = n := by
  have e : (pageB k n l).drop 4 = wordB 4 n ++ (zsB 4 ++ (wordB 4 (sumC (headB k n ++ zsB 4 ++ padB l)) ++ padB l)) := by
    unfold pageB headB
    simp
  unfold numW
  rw [e, List.take_left' (wordB_len 4 n), wordN_four h]
theorem pageB_ok {k n : Nat} {l : List UInt8} (h1 : 1 ≤ k) (h7 : k ≤ 7) (hl : l.length ≤ 4080) : okB (pageB k n l) := by
  refine ⟨⟨pageB_len hl, ?_⟩, by rw [pageB_kind k n l (by omega)]; omega, ?_, ?_⟩
  · unfold pageB headB; simp
  · have e : (pageB k n l).drop 8 = zsB 4 ++ (wordB 4 (sumC (headB k n ++ zsB 4 ++ padB l)) ++ padB l) := by
      have h8 : (wordB 4 n).length = 4 := wordB_len 4 n
      have : pageB k n l = ([84, 77, 1, UInt8.ofNat k] ++ wordB 4 n) ++ (zsB 4 ++ (wordB 4 (sumC (headB k n ++ zsB 4 ++ padB l)) ++ padB l)) := by
        unfold pageB headB; simp only [List.append_assoc]
      rw [this]
      exact List.drop_left' (by simp [wordB_len])
    rw [e]
    exact List.take_left' (zsB_len 4)
  · rw [pageB_drop12, pageB_sum]
    exact List.take_left' (wordB_len 4 _)
theorem getDb {l : List UInt8} {i : Nat} (h : i < l.length) : l.getD i 0 = l[i] := by simp [h]
theorem drop_takeb (l : List UInt8) (a b : Nat) : l.drop a = (l.drop a).take b ++ l.drop (a + b) := by
  rw [← List.drop_drop, List.take_append_drop]
theorem drop_one {l : List UInt8} {i : Nat} (h : i < l.length) : l.drop i = l.getD i 0 :: l.drop (i + 1) := by
  rw [getDb h]; exact List.drop_eq_getElem_cons h
theorem page_cut {l : List UInt8} (h : l.length = 4096) : l = l.take 3 ++ (l.getD 3 0 :: ((l.drop 4).take 4 ++ ((l.drop 8).take 4 ++ ((l.drop 12).take 4 ++ l.drop 16)))) := by
  have e1 := drop_takeb l 12 4
  have e2 := drop_takeb l 8 4
  have e3 := drop_takeb l 4 4
  have e4 := drop_one (l := l) (i := 3) (by omega)
  rw [← e1, ← e2, ← e3, ← e4, List.take_append_drop]
theorem take12 {l : List UInt8} (h : l.length = 4096) : l.take 12 = l.take 3 ++ (l.getD 3 0 :: ((l.drop 4).take 4 ++ (l.drop 8).take 4)) := by
  have hl : (l.take 3 ++ (l.getD 3 0 :: ((l.drop 4).take 4 ++ (l.drop 8).take 4))).length = 12 := by simp; omega
  have e : l = (l.take 3 ++ (l.getD 3 0 :: ((l.drop 4).take 4 ++ (l.drop 8).take 4))) ++ ((l.drop 12).take 4 ++ l.drop 16) := by
    conv => lhs; rw [page_cut h]
    simp only [List.append_assoc, List.cons_append]
  conv => lhs; rw [e]
  exact List.take_left' hl
theorem ofNat_toNat (x : UInt8) : UInt8.ofNat x.toNat = x := by simp
theorem okB_page {l : List UInt8} (h : okB l) : pageB (l.getD 3 0).toNat (numW l) (l.drop 16) = l := by
  obtain ⟨⟨hl, h3⟩, hk, hz, hs⟩ := h
  have hd : (l.drop 16).length = 4080 := by simp; omega
  have h4 : ((l.drop 4).take 4).length = 4 := by simp; omega
  have hh : headB (l.getD 3 0).toNat (numW l) = l.take 12 := by
    rw [take12 hl, h3, hz]
    unfold headB numW
    rw [wordB_four h4, ofNat_toNat]
    rfl
  unfold pageB
  rw [hh, padB_full hd]
  have : sumC (l.take 12 ++ zsB 4 ++ l.drop 16) = sumB l := rfl
  rw [this, ← hs, ← drop_takeb, List.take_append_drop]
/-- The document's own way: bytes are a page's if they are those of the page that they tell. -/
theorem okB_iff (l : List UInt8) : okB l ↔ l.length = 4096 ∧ (1 ≤ (l.getD 3 0).toNat ∧ (l.getD 3 0).toNat ≤ 7) ∧ pageB (l.getD 3 0).toNat (numW l) (l.drop 16) = l := by
  constructor
  · intro h
    exact ⟨h.1.1, h.2.1, okB_page h⟩
  · rintro ⟨hl, ⟨h1, h7⟩, he⟩
    have hd : (l.drop 16).length ≤ 4080 := by simp; omega
    have := pageB_ok (n := numW l) h1 h7 hd
    rw [he] at this
    exact this
/-- A byte changed changes the sum. -/
theorem sumC_set {l : List UInt8} {i : Nat} (hi : i < l.length) {y : UInt8} (h : sumC (l.set i y) = sumC l) : y = l[i] := by
  have e1 : l.set i y = l.take i ++ [y] ++ l.drop (i + 1) := by rw [List.set_eq_take_append_cons_drop, if_pos hi]; simp
  have e2 : l = l.take i ++ [l[i]] ++ l.drop (i + 1) := by simp
  rw [e1] at h
  conv at h => rhs; rw [e2]
  have := sumC_four (l := [y]) (m := [l[i]]) rfl (by simp) h
  injection this
theorem okB_turned {l : List UInt8} (h : okB l) {i : Nat} (hi : i < 4096) {y : UInt8} (hy : y ≠ l.getD i 0) : ¬ okB (l.set i y) := by
  intro h'
  obtain ⟨⟨hl, _⟩, _, _, hs⟩ := h
  obtain ⟨_, _, _, hs'⟩ := h'
  have hil : i < l.length := by omega
  rw [getDb hil] at hy
  by_cases hc : 12 ≤ i ∧ i < 16
  · have e1 : sumB (l.set i y) = sumB l := by
      unfold sumB
      rw [List.take_set_of_le (by omega), List.drop_set_of_lt (by omega)]
    rw [e1, ← hs, List.drop_set, if_neg (by omega)] at hs'
    have h1 : (((l.drop 12).set (i - 12) y).take 4)[i - 12]? = ((l.drop 12).take 4)[i - 12]? := by rw [hs']
    rw [List.getElem?_take_of_lt (by omega), List.getElem?_take_of_lt (by omega), List.getElem?_set_self (by simp; omega), List.getElem?_drop] at h1
    rw [show 12 + (i - 12) = i by omega, List.getElem?_eq_getElem hil] at h1
    exact hy (Option.some.inj h1)
  · have e0 : ((l.set i y).drop 12).take 4 = (l.drop 12).take 4 := by
      by_cases h12 : i < 12
      · rw [List.drop_set_of_lt h12]
      · rw [List.drop_set, if_neg h12, List.take_set_of_le (by omega)]
    rw [e0, hs] at hs'
    have e2 := wordB_inj4 (sumB_lt _) (sumB_lt _) hs'
    have hlen : i < (l.take 12 ++ zsB 4 ++ l.drop 16).length := by simp [zsB_len]; omega
    have e3 : (l.set i y).take 12 ++ zsB 4 ++ (l.set i y).drop 16 = (l.take 12 ++ zsB 4 ++ l.drop 16).set i y := by
      have ht : (l.take 12).length = 12 := by simp; omega
      have ht4 : (l.take 12 ++ zsB 4).length = 16 := by rw [List.length_append, ht, zsB_len]
      by_cases h12 : i < 12
      · rw [List.drop_set_of_lt (by omega), List.set_append_left _ _ (by rw [ht4]; omega), List.set_append_left _ _ (by rw [ht]; omega), List.take_set]
      · rw [List.take_set_of_le (by omega), List.drop_set, if_neg (by omega), List.set_append_right _ _ (by rw [ht4]; omega), ht4]
    have e4 : (l.take 12 ++ zsB 4 ++ l.drop 16)[i] = l[i] := by
      have h5 : (l.take 12 ++ zsB 4 ++ l.drop 16)[i]? = l[i]? := by
        have ht : (l.take 12).length = 12 := by simp; omega
        have ht4 : (l.take 12 ++ zsB 4).length = 16 := by rw [List.length_append, ht, zsB_len]
        by_cases h12 : i < 12
        · rw [List.getElem?_append_left (by rw [ht4]; omega), List.getElem?_append_left (by rw [ht]; omega), List.getElem?_take_of_lt h12]
        · rw [List.getElem?_append_right (by rw [ht4]; omega), ht4, List.getElem?_drop]
          congr 1
          omega
      rw [List.getElem?_eq_getElem hlen, List.getElem?_eq_getElem hil] at h5
      exact Option.some.inj h5
    unfold sumB at e2
    rw [e3] at e2
    exact hy ((sumC_set hlen e2.symm).trans e4)
/-- Pages of unlike parts have unlike bytes. -/
theorem pageB_iff {k n k' n' : Nat} {l l' : List UInt8} (hk : k < 256) (hk' : k' < 256) (hn : n < 4294967296) (hn' : n' < 4294967296) (hl : l.length ≤ 4080) (hl' : l'.length ≤ 4080) :
    pageB k n l = pageB k' n' l' ↔ k = k' ∧ n = n' ∧ trimR l = trimR l' := by
  constructor
  · intro h
    refine ⟨?_, ?_, ?_⟩
    · rw [← pageB_kind k n l hk, ← pageB_kind k' n' l' hk', h]
    · rw [← pageB_num k n l hn, ← pageB_num k' n' l' hn', h]
    · rw [← padB_iff hl hl', ← pageB_drop k n l, ← pageB_drop k' n' l', h]
  · rintro ⟨rfl, rfl, h⟩
    unfold pageB
    rw [(padB_iff hl hl').2 h]
end Go.Proofs.YtagchbpofoidmaaDoor

/-
  Package page's small functions by their contracts: bytes.Equal, bytes.TrimRight of noughts, isKind, trimmed. Conditions: the bytes are fewer than 2^46.
-/
namespace Go.Proofs.YtagchbpofoidmaaDoor
set_option maxRecDepth 100000
open Go.RowKit

theorem bytes_eq (l m : List UInt8) : ((⟨l.toArray⟩ : ByteArray).toList == (⟨m.toArray⟩ : ByteArray).toList) = decide (l = m) := by
  rw [ByteArray.toList_eq, ByteArray.toList_eq]
  by_cases h : l = m
  · subst h; simp
  · simp [h]
theorem bytes_lit (l m : List UInt8) : ((⟨l.toArray⟩ : ByteArray).toList == m) = decide (l = m) := by
  rw [ByteArray.toList_eq]
  by_cases h : l = m
  · subst h; simp
  · simp [h]
theorem equal_any (w : World) (u v : Value) (l m : List UInt8) (hu : Byt w u l) (hv : Byt w v m) :
    Calls Tryd.prog 53 #[u, v] w fun e w' => e = .returned (.bool (decide (l = m))) ∧ w = w' := by
  have T1 := text_of hu
  have T2 := text_of hv
  have E := Lib.hid (bytes_eq l m)
  obtain ⟨A, n, c, rfl, N, hnc, hcm⟩ := hu.form
  obtain ⟨A2, n2, c2, rfl, N2, hnc2, hcm2⟩ := hv.form
  clear hu hv
  generalize (⟨l.toArray⟩ : ByteArray) = s1 at *
  generalize (⟨m.toArray⟩ : ByteArray) = s2 at *
  go_enter Tryd.func53, Tryd.ntmps53
  go_wp2_with fail
  go_ret
  exact ⟨by rw [E.out]; rfl, rfl⟩
theorem isKind_any (k : Int) (w : World) : Calls Tryd.prog 37 #[.int .i64 k] w fun e w' => e = .returned (.bool (decide (1 ≤ k ∧ k ≤ 7))) ∧ w = w' := by
  by_cases h1 : 1 ≤ k
  · by_cases h7 : k ≤ 7
    · have hd : decide (1 ≤ k ∧ k ≤ 7) = true := by simp [h1, h7]
      rw [hd]
      go_enter Tryd.func37, Tryd.ntmps37
      go_wp2_with fail
      go_ret
      exact ⟨rfl, rfl⟩
    · have hd : decide (1 ≤ k ∧ k ≤ 7) = false := by simp [h7]
      rw [hd]
      go_enter Tryd.func37, Tryd.ntmps37
      go_wp2_with fail
      go_ret
      exact ⟨rfl, rfl⟩
  · have hd : decide (1 ≤ k ∧ k ≤ 7) = false := by simp [h1]
    rw [hd]
    go_enter Tryd.func37, Tryd.ntmps37
    go_wp2_with fail
    go_ret
    exact ⟨rfl, rfl⟩
/-- What a call that hands a part of its bytes back leaves. -/
def Part (w : World) (l : List UInt8) (e : Ending) (w' : World) : Prop := ∃ v, e = .returned v ∧ Byt w v l ∧ w = w'
def lenV : Value → Nat
  | .slice _ n _ => n
  | _ => 0
def TrimRel (w : World) (l : List UInt8) (s : Value) : Prop := ∃ (A : Option Addr) (k c : Nat), s = .slice A k c ∧ k ≤ l.length ∧ Byt w s (l.take k) ∧ k ≤ c ∧ c ≤ 9223372036854775807 ∧ trimR (l.take k) = trimR l
set_option maxRecDepth 100000 in
set_option maxHeartbeats 1000000 in
theorem trimByte_any (w : World) (v : Value) (l : List UInt8) (hv : Byt w v l) :
    Calls Tryd.prog 82 #[v, .int .u8 0] w (Part w (trimR l)) := by
  obtain ⟨A, n, c, rfl, N, hnc, hcm⟩ := hv.form
  have HV := Lib.hid hv
  clear hv
  go_enter Tryd.func82, Tryd.ntmps82
  go_wp2_with fail
  go_loop [0] (fun s => TrimRel w l s) (fun s => lenV s)
  case atStart => exact ⟨A, n, c, rfl, by have := N.out; omega, by have := N.out; rw [List.take_of_length_le (by omega)]; exact HV.out, hnc, hcm, by have := N.out; rw [List.take_of_length_le (by omega)]⟩
  case round =>
    obtain ⟨A1, k, c1, rfl, hk, hb, hkc, hcm1, ht⟩ := hrel
    have HB := Lib.hid hb
    have HT := Lib.hid ht
    clear hb ht
    cases k with
    | zero =>
      go_wp2_with fail
      go_ret
      refine ⟨_, rfl, ?_, rfl⟩
      have h1 := HT.out
      rw [List.take_zero] at h1
      rw [← h1]
      exact HB.out
    | succ j =>
      have hkl : j < (l.take (j + 1)).length := by rw [List.length_take]; omega
      obtain ⟨b, off, rfl, hb, hc⟩ := HB.out.at (k := j) hkl
      have hcell := hc j hkl
      have hsn : l.take (j + 1) = l.take j ++ [l[j]] := by rw [List.take_succ_eq_append_getElem (by omega)]
      rw [List.getElem_take] at hcell
      have HS := Lib.hid hsn
      have HU := Lib.hid (HB.out.upto (k := j) (by omega))
      clear hc hb hsn
      generalize l[j]'(by omega) = x at *
      by_cases hx : x = 0
      · subst hx
        have hz : ((0 : UInt8).toNat : Int) = 0 := rfl
        rw [hz] at hcell
        go_wp2_with fail
        go_round
        case rel => 
          refine ⟨_, j, c1, rfl, by omega, ?_, by omega, hcm1, ?_⟩
          · have := HU.out
            rw [List.take_take, Nat.min_eq_left (by omega)] at this
            exact this
          · rw [← HT.out, HS.out, trimR_zero]
        case measure => simp [lenV]
      · have hne : ((x.toNat : Int) == 0) = false := by
          have : x.toNat ≠ 0 := fun e => hx (UInt8.toNat_inj.1 e)
          simp; exact this
        go_wp2_with fail
        go_ret
        refine ⟨_, rfl, ?_, rfl⟩
        rw [← HT.out, HS.out, trimR_last _ _ hx, ← HS.out]
        exact HB.out
set_option maxRecDepth 100000 in
set_option maxHeartbeats 1000000 in
theorem trim_any (w : World) (v : Value) (l : List UInt8) (hv : Byt w v l) :
    Calls Tryd.prog 74 #[v, .string ⟨#[0]⟩] w (Part w (trimR l)) := by
  obtain ⟨A, n, c, rfl, N, hnc, hcm⟩ := hv.form
  have HV := Lib.hid hv
  clear hv
  by_cases h0 : n = 0
  · subst h0
    go_enter Tryd.func74, Tryd.ntmps74
    go_wp2_with fail
    go_ret
    refine ⟨_, rfl, ?_, rfl⟩
    obtain rfl : l = [] := List.eq_nil_of_length_eq_zero N.out.symm
    exact HV.out
  · have hn : ((n : Int) == 0) = false := by simp; exact h0
    clear h0
    go_enter Tryd.func74, Tryd.ntmps74
    go_wp2_with fail
    refine (trimByte_any w _ l HV.out).mono ?_
    rintro e w1 ⟨v1, rfl, hb1, rfl⟩
    go_wp2_with fail
    go_ret
    exact ⟨_, rfl, hb1, rfl⟩
theorem trimmed_any (w : World) (v : Value) (l : List UInt8) (hv : Byt w v l) :
    Calls Tryd.prog 54 #[v] w (Part w (trimR l)) := by
  have HV := Lib.hid hv
  clear hv
  go_enter Tryd.func54, Tryd.ntmps54
  go_wp2_with fail
  refine (trim_any w _ l HV.out).mono ?_
  rintro e w1 ⟨v1, rfl, hb1, rfl⟩
  go_wp2_with fail
  go_ret
  exact ⟨_, rfl, hb1, rfl⟩
end Go.Proofs.YtagchbpofoidmaaDoor

/-
  Package page: sum, Kind by their contracts. Conditions: none.
-/
namespace Go.Proofs.YtagchbpofoidmaaDoor
set_option maxRecDepth 100000
open Go.RowKit

theorem own_cell {w : World} {B g n c : Nat} {l : List UInt8} (h : Own w B 5 (.slice (some ⟨g, 0, none⟩) n c) l) {j : Nat} (hj : j < l.length) : w.cell? ⟨g, j, none⟩ = some (.int .u8 ((l.getD j 0).toNat : Int)) := by
  have := World.ownsRow.cells h (g := g) rfl j (.int .u8 (l[j].toNat : Int)) (by simp [byc, hj])
  rw [plainAdd, Nat.zero_add] at this
  rw [this, List.getD_eq_getElem?_getD, List.getElem?_eq_getElem hj]
  rfl
theorem own_set {w : World} {B g n c : Nat} {l : List UInt8} (h : Own w B 5 (.slice (some ⟨g, 0, none⟩) n c) l) (hl : l.length = n) (j : Nat) (x : UInt8) :
    Own (w.setCell ⟨g, j, none⟩ (.int .u8 (x.toNat : Int))) B 5 (.slice (some ⟨g, 0, none⟩) n c) (l.set j x) := by
  unfold Own at h ⊢
  rw [List.length_set]
  rw [hl] at h ⊢
  have := World.ownsRow.stored h j (.int .u8 (x.toNat : Int))
  have e : byc (l.set j x) = (byc l).set j (.int .u8 (x.toNat : Int)) := by simp [byc, List.map_set]
  rw [e]
  exact this.1
/-- 'uint64(x)' of 32 bits. -/
theorem conv64 (u : World) (sm : Nat) (h : sm < 4294967296) (o : Oper) (x : Operand) {a : Act} (ho : o.op = .convert 26 61 x) (hx : a.eval x = .int .u32 (sm : Int)) : (execOp a.eval o).run Tryd.prog u = .ok (.value (.int .u64 (sm : Int))) u := by
  unfold execOp
  rw [ho]
  generalize a.eval = ρ at *
  go_simp
  rw [IntKind.wrap_u64]
  omega
/-- A row that was just laid. -/
theorem Rowz.litF (w : World) (vs : List Value) (t : TypeId) (fz : Nat × Nat) (hl : vs.length ≤ maxLen) : Rowz (w.alloc (.cells vs.toArray t fz)) (.slice (some ⟨w.heap.size, 0, none⟩) vs.length vs.length) vs := by
  refine ⟨_, _, rfl, Nat.le_refl _, hl, .inr ⟨w.heap.size, 0, rfl, by simp, fun j hj => ?_⟩⟩
  rw [cell_of_row _ _ _ _ _ _ (heap_alloc_new w _)]
  simp [hj]
theorem Byts.three {w : World} {a b c : Value} {l m n : List UInt8} (h1 : Byt w a l) (h2 : Byt w b m) (h3 : Byt w c n) : Byts w [a, b, c] [l, m, n] :=
  ((((Byts.nil w).snoc h1).snoc h2).snoc h3)
theorem made_zeros (n : Nat) : (madeCells (Value.cells (.int .u8 0)) (n * 1)).toList = byc (zsB n) := by
  rw [show (Value.cells (.int .u8 0)) = #[.int .u8 0] from rfl, toList_madeCells_one, Nat.mul_one]
  simp [byc, zsB]
theorem own_zeros {w : World} {B g n : Nat} (h : w.ownsRow B 5 1 (.slice (some ⟨g, 0, none⟩) n n) n (madeCells (Value.cells (.int .u8 0)) (n * 1)).toList) : Own w B 5 (.slice (some ⟨g, 0, none⟩) n n) (zsB n) := by
  rw [made_zeros] at h
  unfold Own
  rw [zsB_len]
  exact h
/-- 's[a:b]' with constant bounds. -/
theorem Byt.midrun {w : World} {A : Option Addr} {n c : Nat} {l : List UInt8} (h : Byt w (.slice A n c) l) (a b : Nat) (hab : a ≤ b) (hb : b ≤ n) :
    ∃ A1 n1 c1, (∀ W, (Instr.slice 22 (.slice A n c) (some (.int .i64 (a : Int))) (some (.int .i64 (b : Int))) none).run Tryd.prog W = .ok (.slice A1 n1 c1) W) ∧ Byt w (.slice A1 n1 c1) ((l.drop a).take (b - a)) ∧ Hid (n1 = b - a) ∧ n1 ≤ c1 ∧ c1 ≤ 9223372036854775807 := by
  have h1 := h.cut (k := a) (by omega)
  have h2 := h1.upto (k := b - a) (by omega)
  obtain ⟨A', c', hv, g1, g2, _⟩ := id h1
  injection hv with e1 e2 e3
  have hln : l.length = n ∧ n ≤ c := by obtain ⟨_, _, hv, h9, _⟩ := h; injection hv with _ e e9; subst e9; exact ⟨e.symm, by omega⟩
  refine ⟨_, b - a, _, fun W => ?_, h2, rfl, ?_, ?_⟩
  · rw [run_slice_lh W 22 _ n c elemByte .i64 .i64 _ _ (by omega) (by omega) (by omega), sizeByte]
    simp [Result.andThen, sliced]
  · rw [List.length_drop] at g1; omega
  · unfold maxLen at g2; omega

set_option maxRecDepth 100000 in
set_option maxHeartbeats 2000000 in
theorem pgsum_any (w : World) (v : Value) (l : List UInt8) (hv : Byt w v l) (hl : l.length = 4096) :
    Calls Tryd.prog 39 #[v] w (Made w (wordB 4 (sumB l))) := by
  obtain ⟨i0, hi0, hz0, hz1, hz2⟩ := info_parts uinfo
  obtain ⟨A, n, c, rfl, N, hnc, hcm⟩ := hv.form
  obtain rfl : n = 4096 := N.out.trans hl
  obtain ⟨A2, n2, c2, hcut, hby2, N2, _, _⟩ := hv.cutrun 22 elemByte sizeByte 16 (by omega) .i64
  have hcut' : ∀ W, (Instr.slice 22 (.slice A 4096 c) (some (.int .i64 16)) none none).run Tryd.prog W = .ok (.slice A2 n2 c2) W := hcut
  obtain ⟨A1, n1, c1, hupr, hup, N1, _, _⟩ := hv.uptorun 22 elemByte sizeByte 12 (by omega) .i64
  have hup' : ∀ W, (Instr.slice 22 (.slice A 4096 c) none (some (.int .i64 12)) none).run Tryd.prog W = .ok (.slice A1 n1 c1) W := hupr
  have HV := Lib.hid hv
  have HU0 := Lib.hid hup
  have HC0 := Lib.hid hby2
  have HLL := Lib.hid hl
  clear hv hcut hup hupr hby2 N
  go_enter Tryd.func39, Tryd.ntmps39
  go_wp2_with (at_make; refine wpList_make_full _ rfl _ _ 22 rfl w.heap.size 5 i0 _ 1 Tryd.underlying22 hi0 hz0 hz1 _ _ _ _ 4 rfl rfl rfl rfl (by rw [hz2]; omega) (by simp only [maxLen]; omega) (Nat.le_refl _) ?_; intro w1 hown1 hg1)
  have hb1 := below_none hg1
  have HO : Hid (Own w1.drew w.heap.size 5 (.slice (some ⟨w.heap.size, 0, none⟩) 4 4) (zsB 4)) := own_zeros hown1
  have HB : Hid (Below w.heap.size w w1.drew) := hb1.drew
  have HU : Hid (Byt w1.drew (.slice A1 n1 c1) (l.take 12)) := HU0.out.below hb1.drew
  have HC : Hid (Byt w1.drew (.slice A2 n2 c2) (l.drop 16)) := HC0.out.below hb1.drew
  clear hown1 hg1 hb1
  refine wp_region_R (R := fun x y => Below x.heap.size x y) (by kernel_rfl) (fun _ => Below.refl _ _) (fun h k => h.trans (k.mono h.size)) (by kernel_rfl) (fun d v c a w h => by cases d <;> exact h)
    [(0, false), (1, false), (2, false), (3, false), (4, false), (5, true), (6, true), (7, false), (8, true), (9, false)] rfl (by kernel_rfl) (by kernel_rfl) ?_
  simp only [sel, List.getElem?_toArray, List.getElem?_cons_succ, List.getElem?_cons_zero]
  generalize w1.drew = wd at *
  iterate 5 (refine sch_take ?_ rfl ?_ ?_; rotate_left; (focus (intro u hu; go_simp <;> rfl)); simp only [Act.put, List.setIfInBounds_toArray, List.set_cons_zero, List.set_cons_succ])
  refine sch_call rfl ?_
  intro K hK
  go_simp
  refine hK _ _ (below_new _ _) ?_
  clear hK K
  have hrow := Rowz.litF wd [.slice A1 n1 c1, .slice (some ⟨w.heap.size, 0, none⟩) 4 4, .slice A2 n2 c2] 22 (0, 0) (by simp [maxLen])
  have hbyt := Byts.three ((HU.out).alloc (.cells #[.slice A1 n1 c1, .slice (some ⟨w.heap.size, 0, none⟩) 4 4, .slice A2 n2 c2] 22)) (HO.out.byt.alloc _) (HC.out.alloc _)
  refine sch_call rfl ?_
  intro K hK
  go_simp
  have hcp := crcparts_any _ _ _ _ hrow hbyt (by
    intro x hx
    have hl := HLL.out
    simp at hx
    rcases hx with rfl | rfl | rfl
    · rw [List.length_take]; omega
    · rw [zsB_len]; omega
    · rw [List.length_drop]; omega)
  have hsum : sumC [l.take 12, zsB 4, l.drop 16].flatten = sumB l := by simp [sumB]
  rw [hsum] at hcp
  have HLT := Lib.hid (sumB_lt l)
  clear hrow hbyt hsum
  generalize sumB l = sm at *
  have hlt := HLT.out
  refine hcp.mono ?_
  clear hcp
  rintro e w2 ⟨rfl, hb2⟩
  go_wp2_with fail
  refine hK _ _ hb2 ?_
  clear hK K
  have HB2 := Lib.hid ((HB.out.trans ((below_new wd _).mono HB.out.size)).trans (hb2.mono (by have := HB.out.size; simp; omega)))
  clear hb2
  refine sch_take (.int .u64 (sm : Int)) rfl (fun u _ => conv64 u sm hlt _ _ rfl rfl) ?_
  simp only [Act.put, List.setIfInBounds_toArray, List.set_cons_zero, List.set_cons_succ]
  refine sch_call rfl ?_
  intro K hK
  go_simp
  refine (word_is _ _ [] sm 4 (Byt.nil _) (by omega) (by omega) (by simp)).mono ?_
  rintro e w3 ⟨v3, rfl, hown3, hb3⟩
  go_wp2_with fail
  refine hK _ _ hb3 ?_
  clear hK K
  have HO3 := Lib.hid hown3
  have HB3 := Lib.hid (HB2.out.trans (hb3.mono HB2.out.size))
  have HS3 := Lib.hid HB2.out.size
  clear hown3 hb3 hlt
  (refine sch_take ?_ rfl ?_ ?_; rotate_left; (focus (intro u hu; go_simp <;> rfl)); simp only [Act.put, List.setIfInBounds_toArray, List.set_cons_zero, List.set_cons_succ])
  refine sch_nil ?_
  go_wp2_with fail
  go_ret
  exact made_mk (HO3.out.lower (HS3.out)) HB3.out

theorem trim_zs {z : List UInt8} (h : z.length = 4) : (trimR z).length = 0 ↔ z = zsB 4 := by
  constructor
  · intro e
    have e' := List.eq_nil_of_length_eq_zero e
    have := trimR_is z
    rw [e', h] at this
    exact this
  · rintro rfl
    have := trimR_zeros [] 4
    rw [List.nil_append] at this
    show (trimR (List.replicate 4 0)).length = 0
    rw [this]; rfl
/-- What a call that tells a number, and may make memory, leaves. -/
def IntB (w : World) (n : Nat) (e : Ending) (w' : World) : Prop := e = .returned (.int .i64 (n : Int)) ∧ Below w.heap.size w w'
theorem kind_len (w : World) (v : Value) (l : List UInt8) (hv : Byt w v l) (hl : l.length ≠ 4096) : Calls Tryd.prog 19 #[v] w (IntB w (kindB l)) := by
  have HR : Hid (kindB l = 0) := (kindB_zero l).2 (fun h => hl h.1.1)
  obtain ⟨A, n, c, rfl, N, hnc, hcm⟩ := hv.form
  have hn : ((n : Int) != 4096) = true := by have := N.out; simp only [bne, beq_eq_false_iff_ne, Bool.not_eq_true', ne_eq]; omega
  clear hv hl
  go_enter Tryd.func19, Tryd.ntmps19
  go_wp2_with fail
  go_ret
  rw [HR.out]
  exact ⟨rfl, Below.refl _ _⟩
theorem kind_mark (w : World) (v : Value) (l : List UInt8) (hv : Byt w v l) (hl : l.length = 4096) (hm : l.take 3 ≠ [84, 77, 1]) : Calls Tryd.prog 19 #[v] w (IntB w (kindB l)) := by
  have HR : Hid (kindB l = 0) := (kindB_zero l).2 (fun h => hm h.1.2)
  obtain ⟨A, n, c, rfl, N, hnc, hcm⟩ := hv.form
  obtain rfl : n = 4096 := N.out.trans hl
  obtain ⟨A1, n1, c1, r1, b1, N1, _, _⟩ := hv.midrun 0 3 (by omega) (by omega)
  have r1' : ∀ W, (Instr.slice 22 (.slice A 4096 c) (some (.int .i64 0)) (some (.int .i64 3)) none).run Tryd.prog W = .ok (.slice A1 n1 c1) W := r1
  rw [List.drop_zero] at b1
  have T1 := text_of b1
  have E := bytes_lit (l.take 3) [84, 77, 1]
  rw [decide_eq_false hm] at E
  have e3 : (l.take (3 - 0)) = l.take 3 := rfl
  rw [e3] at T1
  generalize (⟨(l.take 3).toArray⟩ : ByteArray) = s1 at *
  clear hv hl hm r1 b1 e3
  go_enter Tryd.func19, Tryd.ntmps19
  go_wp2_with fail
  go_ret
  rw [HR.out]
  exact ⟨rfl, Below.refl _ _⟩

set_option maxRecDepth 100000 in
set_option maxHeartbeats 4000000 in
theorem kind_rest (w : World) (v : Value) (l : List UInt8) (hv : Byt w v l) (hl : l.length = 4096) (hm : l.take 3 = [84, 77, 1]) : Calls Tryd.prog 19 #[v] w (IntB w (kindB l)) := by
  obtain ⟨A, n, c, rfl, N, hnc, hcm⟩ := hv.form
  obtain rfl : n = 4096 := N.out.trans hl
  obtain ⟨A1, n1, c1, r1, b1, N1, _, _⟩ := hv.midrun 0 3 (by omega) (by omega)
  have r1' : ∀ W, (Instr.slice 22 (.slice A 4096 c) (some (.int .i64 0)) (some (.int .i64 3)) none).run Tryd.prog W = .ok (.slice A1 n1 c1) W := r1
  obtain ⟨A2, n2, c2, r2, b2, N2, _, _⟩ := hv.midrun 8 12 (by omega) (by omega)
  have r2' : ∀ W, (Instr.slice 22 (.slice A 4096 c) (some (.int .i64 8)) (some (.int .i64 12)) none).run Tryd.prog W = .ok (.slice A2 n2 c2) W := r2
  obtain ⟨A3, n3, c3, r3, b3, N3, _, _⟩ := hv.midrun 12 16 (by omega) (by omega)
  have r3' : ∀ W, (Instr.slice 22 (.slice A 4096 c) (some (.int .i64 12)) (some (.int .i64 16)) none).run Tryd.prog W = .ok (.slice A3 n3 c3) W := r3
  rw [List.drop_zero] at b1
  have T1 := text_of b1
  have E := bytes_lit (l.take 3) [84, 77, 1]
  rw [decide_eq_true hm] at E
  have e3 : (l.take (3 - 0)) = l.take 3 := rfl
  rw [e3] at T1
  generalize (⟨(l.take 3).toArray⟩ : ByteArray) = s1 at *
  obtain ⟨b, off, rfl, hb, hc⟩ := hv.at (k := 3) (by omega)
  have hcell := hc 3 (by omega)
  have hk3 : l[3]'(by omega) = l.getD 3 0 := (getDb (by omega)).symm
  rw [hk3] at hcell
  have B2 : Hid (Byt w (.slice A2 n2 c2) ((l.drop 8).take 4)) := b2
  have B3 : Hid (Byt w.drew (.slice A3 n3 c3) ((l.drop 12).take 4)) := b3
  have HV := Lib.hid hv
  have HVd : Hid (Byt w.drew _ l) := hv
  have HLL := Lib.hid hl
  have HM := Lib.hid hm
  have hx : (l.getD 3 0).toNat < 256 := UInt8.toNat_lt _
  have HKB : Hid (kindB l = if okB l then (l.getD 3 0).toNat else 0) := rfl
  have HOK : Hid (okB l ↔ (1 ≤ (l.getD 3 0).toNat ∧ (l.getD 3 0).toNat ≤ 7) ∧ (l.drop 8).take 4 = zsB 4 ∧ (l.drop 12).take 4 = wordB 4 (sumB l)) := ⟨fun h => h.2, fun h => ⟨⟨hl, hm⟩, h⟩⟩
  have HZ : Hid ((trimR ((l.drop 8).take 4)).length = 0 ↔ (l.drop 8).take 4 = zsB 4) := trim_zs (by rw [List.length_take, List.length_drop]; omega)
  generalize (l.getD 3 0).toNat = x at *
  clear hv hm r1 b1 e3 r2 r3 b2 b3 hc hb hk3 N
  go_enter Tryd.func19, Tryd.ntmps19
  go_wp2_with fail
  refine (trimmed_any w _ _ B2.out).mono ?_
  rintro e w1 ⟨v1, rfl, hb1, rfl⟩
  obtain ⟨A4, n4, c4, rfl, N4, hnc4, hcm4⟩ := hb1.form
  clear hb1
  by_cases hk : 1 ≤ x ∧ x ≤ 7
  · have HK : Hid (decide ((1 : Int) ≤ (x : Int) ∧ (x : Int) ≤ 7) = true) := by rw [Hid]; simp; omega
    by_cases hz : n4 = 0
    · subst hz
      have HZ2 : Hid ((l.drop 8).take 4 = zsB 4) := HZ.out.1 N4.out.symm
      go_wp2_with fail
      refine wp_region_R (R := fun x y => Below x.heap.size x y) (by kernel_rfl) (fun _ => Below.refl _ _) (fun h k => h.trans (k.mono h.size)) (by kernel_rfl) (fun d v c a w h => by cases d <;> exact h)
        [(0, false), (1, true), (2, false), (3, false), (4, false), (5, false), (6, false), (7, false), (8, false), (9, false), (10, false), (11, true), (12, true), (13, false), (14, false)] rfl (by kernel_rfl) (by kernel_rfl) ?_
      simp only [sel, List.getElem?_toArray, List.getElem?_cons_succ, List.getElem?_cons_zero]
      have HBX : Hid (Below w.heap.size w w.drew) := (Below.refl _ _).drew
      have HBS : Hid (w.heap.size ≤ w.drew.heap.size) := Nat.le_refl _
      generalize w.drew = wd at *
      (refine sch_take ?_ rfl ?_ ?_; rotate_left; (focus (intro u hu; go_simp <;> rfl)); simp only [Act.put, List.setIfInBounds_toArray, List.set_cons_zero, List.set_cons_succ])
      refine sch_call rfl ?_
      intro K hK
      go_simp
      refine (isKind_any _ _).mono ?_
      rintro e w2 ⟨rfl, rfl⟩; rw [HK.out]
      go_wp2_with fail
      refine hK _ _ (Below.refl _ _) ?_
      clear hK K
      iterate 9 (refine sch_take ?_ rfl ?_ ?_; rotate_left; (focus (intro u hu; go_simp <;> rfl)); simp only [Act.put, List.setIfInBounds_toArray, List.set_cons_zero, List.set_cons_succ])
      refine sch_call rfl ?_
      intro K hK
      go_simp
      refine (pgsum_any _ _ l HVd.out HLL.out).mono ?_
      rintro e w3 ⟨v3, rfl, hown3, hb3⟩
      go_wp2_with fail
      refine hK _ _ hb3 ?_
      clear hK K
      have HB3 := Lib.hid (HBX.out.trans (hb3.mono HBS.out))
      have H33 := Lib.hid (B3.out.below hb3)
      have HV3 := Lib.hid hown3.byt
      obtain ⟨A5, n5, c5, rfl, N5, hnc5, hcm5⟩ := hown3.byt.form
      clear hown3 hb3
      refine sch_call rfl ?_
      intro K hK
      go_simp
      refine (equal_any _ _ _ _ _ H33.out HV3.out).mono ?_
      rintro e w4 ⟨rfl, rfl⟩; obtain ⟨bq, HE⟩ : ∃ bq, Hid (decide ((l.drop 12).take 4 = wordB 4 (sumB l)) = bq) := ⟨_, rfl⟩; rw [HE.out]
      go_wp2_with fail
      refine hK _ _ (Below.refl _ _) ?_
      clear hK K
      iterate 2 (refine sch_take ?_ rfl ?_ ?_; rotate_left; (focus (intro u hu; go_simp <;> rfl)); simp only [Act.put, List.setIfInBounds_toArray, List.set_cons_zero, List.set_cons_succ])
      refine sch_nil ?_
      cases bq
      · have HR : Hid (kindB l = 0) := by
          rw [Hid, HKB.out, if_neg]
          intro h
          exact of_decide_eq_false HE.out (HOK.out.1 h).2.2
        go_wp2_with fail
        go_ret
        rw [HR.out]
        exact ⟨rfl, HB3.out⟩
      · have HR : Hid (kindB l = x) := by
          rw [Hid, HKB.out, if_pos]
          exact HOK.out.2 ⟨hk, HZ2.out, of_decide_eq_true HE.out⟩
        go_wp2_with fail
        go_ret
        rw [HR.out]
        exact ⟨rfl, HB3.out⟩
    · have hz' : ((n4 : Int) == 0) = false := by simp; exact hz
      have HR : Hid (kindB l = 0) := by
        rw [Hid, HKB.out, if_neg]
        intro h
        exact hz (N4.out.trans (HZ.out.2 (HOK.out.1 h).2.1))
      go_wp2_with fail
      refine wp_region_R (R := fun x y => Below x.heap.size x y) (by kernel_rfl) (fun _ => Below.refl _ _) (fun h k => h.trans (k.mono h.size)) (by kernel_rfl) (fun d v c a w h => by cases d <;> exact h)
        [(0, false), (1, true), (2, false), (3, false), (4, false), (5, false), (6, false), (7, false), (8, false), (9, false), (10, false), (11, true), (12, true), (13, false), (14, false)] rfl (by kernel_rfl) (by kernel_rfl) ?_
      simp only [sel, List.getElem?_toArray, List.getElem?_cons_succ, List.getElem?_cons_zero]
      have HBX : Hid (Below w.heap.size w w.drew) := (Below.refl _ _).drew
      have HBS : Hid (w.heap.size ≤ w.drew.heap.size) := Nat.le_refl _
      generalize w.drew = wd at *
      (refine sch_take ?_ rfl ?_ ?_; rotate_left; (focus (intro u hu; go_simp <;> rfl)); simp only [Act.put, List.setIfInBounds_toArray, List.set_cons_zero, List.set_cons_succ])
      refine sch_call rfl ?_
      intro K hK
      go_simp
      refine (isKind_any _ _).mono ?_
      rintro e w2 ⟨rfl, rfl⟩; rw [HK.out]
      go_wp2_with fail
      refine hK _ _ (Below.refl _ _) ?_
      clear hK K
      iterate 6 (refine sch_take ?_ rfl ?_ ?_; rotate_left; (focus (intro u hu; go_simp <;> rfl)); simp only [Act.put, List.setIfInBounds_toArray, List.set_cons_zero, List.set_cons_succ])
      refine sch_idle rfl ?_
      simp only [Act.put, List.setIfInBounds_toArray, List.set_cons_zero, List.set_cons_succ]
      refine sch_idle rfl ?_
      simp only [Act.put, List.setIfInBounds_toArray, List.set_cons_zero, List.set_cons_succ]
      refine sch_idle rfl ?_
      simp only [Act.put, List.setIfInBounds_toArray, List.set_cons_zero, List.set_cons_succ]
      refine sch_idleC rfl ?_
      simp only [Act.put, List.setIfInBounds_toArray, List.set_cons_zero, List.set_cons_succ]
      refine sch_idleC rfl ?_
      simp only [Act.put, List.setIfInBounds_toArray, List.set_cons_zero, List.set_cons_succ]
      refine sch_idle rfl ?_
      simp only [Act.put, List.setIfInBounds_toArray, List.set_cons_zero, List.set_cons_succ]
      (refine sch_take ?_ rfl ?_ ?_; rotate_left; (focus (intro u hu; go_simp <;> rfl)); simp only [Act.put, List.setIfInBounds_toArray, List.set_cons_zero, List.set_cons_succ])
      refine sch_nil ?_
      go_wp2_with fail
      go_ret
      rw [HR.out]
      exact ⟨rfl, HBX.out⟩
  · have HK : Hid (decide ((1 : Int) ≤ (x : Int) ∧ (x : Int) ≤ 7) = false) := by rw [Hid]; simp; omega
    have HR : Hid (kindB l = 0) := by
      rw [Hid, HKB.out, if_neg]
      intro h
      exact hk (HOK.out.1 h).1
    have hz' : ∃ bz, ((n4 : Int) == 0) = bz := ⟨_, rfl⟩
    obtain ⟨bz, hz'⟩ := hz'
    go_wp2_with fail
    refine wp_region_R (R := fun x y => Below x.heap.size x y) (by kernel_rfl) (fun _ => Below.refl _ _) (fun h k => h.trans (k.mono h.size)) (by kernel_rfl) (fun d v c a w h => by cases d <;> exact h)
      [(0, false), (1, true), (2, false), (3, false), (4, false), (5, false), (6, false), (7, false), (8, false), (9, false), (10, false), (11, true), (12, true), (13, false), (14, false)] rfl (by kernel_rfl) (by kernel_rfl) ?_
    simp only [sel, List.getElem?_toArray, List.getElem?_cons_succ, List.getElem?_cons_zero]
    have HBX : Hid (Below w.heap.size w w.drew) := (Below.refl _ _).drew
    have HBS : Hid (w.heap.size ≤ w.drew.heap.size) := Nat.le_refl _
    generalize w.drew = wd at *
    (refine sch_take ?_ rfl ?_ ?_; rotate_left; (focus (intro u hu; go_simp <;> rfl)); simp only [Act.put, List.setIfInBounds_toArray, List.set_cons_zero, List.set_cons_succ])
    refine sch_call rfl ?_
    intro K hK
    go_simp
    refine (isKind_any _ _).mono ?_
    rintro e w2 ⟨rfl, rfl⟩; rw [HK.out]
    go_wp2_with fail
    refine hK _ _ (Below.refl _ _) ?_
    clear hK K
    iterate 2 (refine sch_take ?_ rfl ?_ ?_; rotate_left; (focus (intro u hu; go_simp <;> rfl)); simp only [Act.put, List.setIfInBounds_toArray, List.set_cons_zero, List.set_cons_succ])
    refine sch_idle rfl ?_
    simp only [Act.put, List.setIfInBounds_toArray, List.set_cons_zero, List.set_cons_succ]
    refine sch_idle rfl ?_
    simp only [Act.put, List.setIfInBounds_toArray, List.set_cons_zero, List.set_cons_succ]
    iterate 2 (refine sch_take ?_ rfl ?_ ?_; rotate_left; (focus (intro u hu; go_simp <;> rfl)); simp only [Act.put, List.setIfInBounds_toArray, List.set_cons_zero, List.set_cons_succ])
    refine sch_idle rfl ?_
    simp only [Act.put, List.setIfInBounds_toArray, List.set_cons_zero, List.set_cons_succ]
    refine sch_idle rfl ?_
    simp only [Act.put, List.setIfInBounds_toArray, List.set_cons_zero, List.set_cons_succ]
    refine sch_idle rfl ?_
    simp only [Act.put, List.setIfInBounds_toArray, List.set_cons_zero, List.set_cons_succ]
    refine sch_idleC rfl ?_
    simp only [Act.put, List.setIfInBounds_toArray, List.set_cons_zero, List.set_cons_succ]
    refine sch_idleC rfl ?_
    simp only [Act.put, List.setIfInBounds_toArray, List.set_cons_zero, List.set_cons_succ]
    refine sch_idle rfl ?_
    simp only [Act.put, List.setIfInBounds_toArray, List.set_cons_zero, List.set_cons_succ]
    (refine sch_take ?_ rfl ?_ ?_; rotate_left; (focus (intro u hu; go_simp <;> rfl)); simp only [Act.put, List.setIfInBounds_toArray, List.set_cons_zero, List.set_cons_succ])
    refine sch_nil ?_
    go_wp2_with fail
    go_ret
    rw [HR.out]
    exact ⟨rfl, HBX.out⟩
theorem kind_any (w : World) (v : Value) (l : List UInt8) (hv : Byt w v l) : Calls Tryd.prog 19 #[v] w (IntB w (kindB l)) := by
  by_cases hl : l.length = 4096
  · by_cases hm : l.take 3 = [84, 77, 1]
    · exact kind_rest w v l hv hl hm
    · exact kind_mark w v l hv hl hm
  · exact kind_len w v l hv hl
end Go.Proofs.YtagchbpofoidmaaDoor

/-
  Package page: Bytes by its contract. Conditions: none.
-/
namespace Go.Proofs.YtagchbpofoidmaaDoor
set_option maxRecDepth 100000
open Go.RowKit Go.Maps

section
variable {ops : Array Oper} {rest : List Oper} {o : Oper} {a : Act} {w : World} {K : Act → World → Prop} {Q : Exit → Act → World → Prop}
/-- A copy of bytes into a row of the call's own. -/
theorem wp_copyO (dst : Nat) (d s : Operand) (hdst : o.dst = some dst) (ho' : o.op = .call { callee := .builtin .copy, args := #[d, s], argTypes := #[22, 22] })
    (ib off n ic dLen dCap : Nat) (B l : List UInt8) (sv : Value) (hd : a.eval d = .slice (some ⟨ib, off, none⟩) dLen dCap) (hs' : a.eval s = sv)
    (ho : Own w 0 5 (.slice (some ⟨ib, 0, none⟩) n ic) B) (hs : Byt w sv l) (hle : l.length ≤ dLen) (hfit : off + dLen ≤ n)
    (h : ∀ w', Own w' 0 5 (.slice (some ⟨ib, 0, none⟩) n ic) (splice B off l) → Trn (fun k => k = ib) w w' → w'.heap.size = w.heap.size → K (a.put (some dst) (goInt l.length)) w') : o.wp Tryd.prog a w K Q := by
  rw [← hdst] at h
  obtain ⟨w', hrun, g1, g2, g3⟩ := run_copyB (w := w) o.type ib off n ic dLen dCap B l sv ho hs hle hfit
  unfold Oper.wp
  simp [execOp, ho', resolve, invoke, builtin, hd, hs', hrun, Result.andThen]
  exact h w' g1 g2 g3
theorem byteCells_byc (l : List UInt8) : Lib.byteCells l = byc l := rfl
/-- A copy of a text into a row of the call's own. -/
theorem run_copyS (ib off n ic dLen dCap : Nat) (B l : List UInt8) 
    (ho : Own w 0 5 (.slice (some ⟨ib, 0, none⟩) n ic) B) (hle : l.length ≤ dLen) (hfit : off + dLen ≤ n) :
    ∃ w', (∀ ty, (Builtin.copy_ #[22, 9] ty #[.slice (some ⟨ib, off, none⟩) dLen dCap, .string ⟨l.toArray⟩]).run Tryd.prog w = .ok (goInt l.length) w') ∧ Own w' 0 5 (.slice (some ⟨ib, 0, none⟩) n ic) (splice B off l) ∧ Trn (fun k => k = ib) w w' := by
  have hsz : (Tryd.prog.info? 5).map (·.size) = some 1 := by kernel_rfl
  have hls : (⟨l.toArray⟩ : ByteArray).size = l.length := by simp [ByteArray.size]
  rcases ho.2 with ⟨e, _⟩ | ⟨g, cap, cur, e, hle0, hg, q1, q2, q3, q4⟩
  · cases e
  · injection e with e1 e2 e3
    injection e1 with e1
    injection e1 with e1
    subst e1 e3
    subst e2
    refine ⟨_, fun ty => ?_, ⟨?_, .inr ⟨ib, ic, (cur.toList.take off ++ byc l ++ cur.toList.drop (off + l.length)).toArray, ?_, hle0, setRow_heap w ib _ _ _ _ hg, ?_, q2, ?_, ?_⟩⟩, ⟨rfl, rfl, rfl, by simp [World.setRow], fun k hk hne => setRow_other w ib k _ hne⟩⟩
    · have hrun := Lib.run_copy_row_string (P := Tryd.prog) w 22 9 ty 5 ib off dLen dCap ⟨l.toArray⟩ cur 5 Tryd.underlying22 hsz hg (by rw [hls]; exact hle) (by rw [hls]; omega)
      rw [hls, byteCells_byc] at hrun
      exact hrun
    · rw [byc_len]; omega
    · rw [length_splice _ _ _ (by omega)]
    · rw [length_splice _ _ _ (by omega)]; exact q1
    · simp [byc_len]; omega
    · have e : (cur.toList.take off ++ byc l ++ cur.toList.drop (off + l.length)).toArray.toList = splice cur.toList off (byc l) := by
        simp [splice, byc_len]
      rw [e, length_splice _ _ _ (by omega), splice_take _ _ _ _ (by rw [byc_len]; omega) (by simp; omega), q4, byc_splice]
end
theorem Own.lift {w : World} {B g n c : Nat} {e : TypeId} {l : List UInt8} (h : Own w 0 e (.slice (some ⟨g, 0, none⟩) n c) l) (hB : B ≤ g) : Own w B e (.slice (some ⟨g, 0, none⟩) n c) l := by
  refine ⟨h.1, ?_⟩
  rcases h.2 with ⟨e, _⟩ | ⟨g', cap, cur, e, hb, r⟩
  · cases e
  · injection e with e1 e2 e3
    injection e1 with e1
    injection e1 with e1
    subst e1 e3
    exact .inr ⟨g, c, cur, by rw [e2], hB, r⟩

/-- A page by value. -/
def pageV (k n : Int) (vb : Value) : Array Value := #[.int .i64 k, .int .u32 n, vb]
/-- Block p holds this page. -/
def Box (w : World) (p : Nat) (k n : Int) (vb : Value) : Prop := w.heap[p]? = some (.cells (pageV k n vb) 28 (0, 0))
theorem Box.cells {w : World} {p : Nat} {k n : Int} {vb : Value} (h : Box w p k n vb) : w.cell? ⟨p, 0, none⟩ = some (.int .i64 k) ∧ w.cell? ⟨p, 1, none⟩ = some (.int .u32 n) ∧ w.cell? ⟨p, 2, none⟩ = some vb := by
  refine ⟨?_, ?_, ?_⟩ <;> rw [cell_of_row _ _ _ _ _ _ h] <;> rfl
theorem Box.lt {w : World} {p : Nat} {k n : Int} {vb : Value} (h : Box w p k n vb) : p < w.heap.size := (Array.getElem?_eq_some_iff.1 h).1
theorem Box.below {w w' : World} {p : Nat} {k n : Int} {vb : Value} (h : Box w p k n vb) (hb : Below w.heap.size w w') : Box w' p k n vb := (hb.block p h.lt).trans h
theorem Box.new (w : World) (k n : Int) (vb : Value) : Box (w.alloc (.cells (pageV k n vb) 28)) w.heap.size k n vb := heap_alloc_new w _

/-- Where a page's bytes are made: the page, and the row. -/
structure PgSt (w u : World) (p g : Nat) (k n : Int) (vb : Value) (B : List UInt8) : Prop where
  box : Box u p k n vb
  own : Own u 0 5 (.slice (some ⟨g, 0, none⟩) 4096 4096) B
  bel : Below w.heap.size w u
  hp : w.heap.size ≤ p
  hg : w.heap.size ≤ g
section
variable {w u u' : World} {p g : Nat} {k n : Int} {vb : Value} {B : List UInt8}
theorem PgSt.len (h : PgSt w u p g k n vb B) : B.length = 4096 := by
  rcases h.own.2 with ⟨e, _⟩ | ⟨g', cap, cur, e, _⟩
  · cases e
  · injection e with _ e _; exact e.symm
theorem PgSt.ne (h : PgSt w u p g k n vb B) : p ≠ g := by
  rintro rfl
  rcases h.own.2 with ⟨e, _⟩ | ⟨g', cap, cur, e, _, hg, _⟩
  · cases e
  · injection e with e1 _ _
    injection e1 with e1
    injection e1 with e1
    subst e1
    have := h.box
    unfold Box at this
    rw [this] at hg
    injection hg with hg
    injection hg with _ hg _
    cases hg
theorem PgSt.below (h : PgSt w u p g k n vb B) (hb : Below u.heap.size u u') : PgSt w u' p g k n vb B :=
  ⟨h.box.below hb, Own.keep h.own hb, h.bel.trans (hb.mono h.bel.size), h.hp, h.hg⟩
theorem PgSt.row (h : PgSt w u p g k n vb B) {B' : List UInt8} (ho : Own u' 0 5 (.slice (some ⟨g, 0, none⟩) 4096 4096) B') (ht : Trn (fun i => i = g) u u') : PgSt w u' p g k n vb B' :=
  ⟨(ht.block p h.box.lt h.ne).trans h.box, ho, h.bel.trans (ht.below h.bel.size (fun _ e => e ▸ h.hg)), h.hp, h.hg⟩
theorem PgSt.set (h : PgSt w u p g k n vb B) (j : Nat) (x : UInt8) : PgSt w (u.setCell ⟨g, j, none⟩ (.int .u8 (x.toNat : Int))) p g k n vb (B.set j x) :=
  h.row (own_set h.own h.len j x) ((Trn.refl _ _).setCell _ (fun _ => rfl))
end
theorem pgslice (g a b : Nat) (hab : a ≤ b) (hb : b ≤ 4096) (ha : a < 4096) : ∀ W, (Instr.slice 22 (.slice (some ⟨g, 0, none⟩) 4096 4096) (some (.int .i64 (a : Int))) (some (.int .i64 (b : Int))) none).run Tryd.prog W = .ok (.slice (some ⟨g, a, none⟩) (b - a) (4096 - a)) W := by
  intro W
  rw [run_slice_lh W 22 _ 4096 4096 elemByte .i64 .i64 _ _ (by omega) (by omega) (by omega), sizeByte]
  simp only [Result.andThen, sliced, Int.toNat_natCast]
  rw [if_neg (by omega)]
  simp [plainAdd]
theorem pgslice1 (g a : Nat) (ha : a < 4096) : ∀ W, (Instr.slice 22 (.slice (some ⟨g, 0, none⟩) 4096 4096) (some (.int .i64 (a : Int))) none none).run Tryd.prog W = .ok (.slice (some ⟨g, a, none⟩) (4096 - a) (4096 - a)) W := by
  intro W
  rw [run_slice_l W 22 _ 4096 4096 elemByte .i64 (a : Int) (by omega) (by omega), sizeByte]
  simp only [Result.andThen, sliced, Int.toNat_natCast]
  rw [if_neg (by omega)]
  simp [plainAdd]

/-! The row, step by step. -/
theorem splice_mid {p m q r : List UInt8} (h : m.length = q.length) {k : Nat} (hk : p.length = k) : splice (p ++ (m ++ r)) k q = p ++ (q ++ r) := by
  subst hk
  unfold splice
  rw [List.take_left, ← h, ← List.length_append, show p ++ (m ++ r) = (p ++ m) ++ r by simp, List.drop_left]
theorem zs_split (a b : Nat) : zsB (a + b) = zsB a ++ zsB b := by simp [zsB, List.replicate_append_replicate]
theorem row1 : splice (zsB 4096) 0 [84, 77, 1] = [84, 77, 1] ++ zsB 4093 := by
  rw [show (4096 : Nat) = 3 + 4093 from rfl, zs_split]
  have := splice_mid (p := []) (m := zsB 3) (q := [84, 77, 1]) (r := zsB 4093) rfl rfl
  simpa using this
theorem row2 (x : UInt8) : ([84, 77, 1] ++ zsB 4093).set 3 x = [84, 77, 1, x] ++ zsB 4092 := by
  rw [show (4093 : Nat) = 1 + 4092 from rfl, zs_split]
  rfl
theorem row3 (x : UInt8) (n : Nat) : splice ([84, 77, 1, x] ++ zsB 4092) 4 (wordB 4 n) = [84, 77, 1, x] ++ (wordB 4 n ++ zsB 4088) := by
  rw [show (4092 : Nat) = 4 + 4088 from rfl, zs_split]
  exact splice_mid (by rw [zsB_len, wordB_len]) rfl
theorem row4 (k n : Nat) {l : List UInt8} (hl : l.length ≤ 4080) : splice ([84, 77, 1, UInt8.ofNat k] ++ (wordB 4 n ++ zsB 4088)) 16 l = headB k n ++ (zsB 4 ++ padB l) := by
  have e : zsB 4088 = zsB 4 ++ (zsB 4 ++ (zsB l.length ++ zsB (4080 - l.length))) := by
    rw [← zs_split, ← zs_split, ← zs_split]; congr 1; omega
  have e2 : [84, 77, 1, UInt8.ofNat k] ++ (wordB 4 n ++ zsB 4088) = (headB k n ++ zsB 4) ++ (zsB l.length ++ zsB (4080 - l.length)) := by
    rw [e]; unfold headB; simp only [List.append_assoc]
  rw [e2, splice_mid (by rw [zsB_len]) (by rw [List.length_append, headB_len, zsB_len])]
  unfold padB
  simp only [List.append_assoc]
theorem row4_len (k n : Nat) {l : List UInt8} (hl : l.length ≤ 4080) : (headB k n ++ (zsB 4 ++ padB l)).length = 4096 := by
  rw [List.length_append, List.length_append, headB_len, zsB_len, padB_len hl]
theorem row4_sum (k n : Nat) {l : List UInt8} : sumB (headB k n ++ (zsB 4 ++ padB l)) = sumC (headB k n ++ zsB 4 ++ padB l) := by
  unfold sumB
  rw [List.take_left' (headB_len k n)]
  have : (headB k n ++ (zsB 4 ++ padB l)).drop 16 = padB l := by
    rw [← List.append_assoc]
    exact List.drop_left' (by rw [List.length_append, headB_len, zsB_len])
  rw [this]
theorem row5 (k n : Nat) {l : List UInt8} : splice (headB k n ++ (zsB 4 ++ padB l)) 12 (wordB 4 (sumB (headB k n ++ (zsB 4 ++ padB l)))) = pageB k n l := by
  rw [splice_mid (by rw [zsB_len, wordB_len]) (headB_len k n), row4_sum]
  rfl

/-- What Bytes answers of a page that may not be. -/
def Refused (w : World) (x : Nat) (e : Ending) (w' : World) : Prop := e = .returned (.tuple #[.slice none 0 0, .int .i64 (x : Int)]) ∧ Below w.heap.size w w'
/-- What a call that makes bytes, and no error, leaves. -/
def MadeE (w : World) (l : List UInt8) (e : Ending) (w' : World) : Prop := ∃ v, e = .returned (.tuple #[v, .int .i64 0]) ∧ Own w' w.heap.size 5 v l ∧ Below w.heap.size w w'
set_option maxHeartbeats 1000000 in
theorem bytes_bad (w : World) (k n : Int) (vb : Value) (l : List UInt8) (hv : Byt w vb l) (h : ¬ ((1 ≤ k ∧ k ≤ 7) ∧ l.length ≤ 4080)) :
    Calls Tryd.prog 9 #[.agg (pageV k n vb)] w (Refused w 2) := by
  obtain ⟨A, m, c, rfl, N, hnc, hcm⟩ := hv.form
  have HB := Lib.hid (below_new w (.cells (pageV k n (.slice A m c)) 28))
  clear hv
  unfold pageV at *
  by_cases hk : 1 ≤ k ∧ k ≤ 7
  · have HD : Hid (decide (1 ≤ k ∧ k ≤ 7) = true) := decide_eq_true hk
    have hm : (4080 : Int) < (m : Int) := by have := N.out; omega
    clear hk h
    go_enter Tryd.func9, Tryd.ntmps9
    go_wp2_with fail
    refine (isKind_any _ _).mono ?_
    rintro e w1 ⟨rfl, rfl⟩
    rw [HD.out]
    go_wp2_with fail
    go_ret2
    exact ⟨rfl, HB.out⟩
  · have HD : Hid (decide (1 ≤ k ∧ k ≤ 7) = false) := decide_eq_false hk
    clear hk h
    go_enter Tryd.func9, Tryd.ntmps9
    go_wp2_with fail
    refine (isKind_any _ _).mono ?_
    rintro e w1 ⟨rfl, rfl⟩
    rw [HD.out]
    go_wp2_with fail
    go_ret2
    exact ⟨rfl, HB.out⟩

set_option maxRecDepth 100000 in
set_option maxHeartbeats 8000000 in
theorem bytes_ok (w : World) (k nn : Nat) (vb : Value) (l : List UInt8) (hv : Byt w vb l) (h1 : 1 ≤ k) (h7 : k ≤ 7) (hl : l.length ≤ 4080) (hnn : nn < 4294967296) :
    Calls Tryd.prog 9 #[.agg (pageV (k : Int) (nn : Int) vb)] w (MadeE w (pageB k nn l)) := by
  obtain ⟨i0, hi0, hz0, hz1, hz2⟩ := info_parts uinfo
  obtain ⟨A, m, c, rfl, N, hnc, hcm⟩ := hv.form
  have HV := Lib.hid hv
  have HL := Lib.hid hl
  have HD : Hid (decide ((1 : Int) ≤ (k : Int) ∧ (k : Int) ≤ 7) = true) := by rw [Hid]; simp; omega
  have hm : ¬ (4080 : Int) < (m : Int) := by have := N.out; omega
  obtain ⟨w0, hw0⟩ : ∃ w0, w0 = w.alloc (.cells (pageV k nn (.slice A m c)) 28) := ⟨_, rfl⟩
  have HX0 : Hid (Box w0 w.heap.size k nn (.slice A m c)) := hw0 ▸ Box.new w k nn _
  have HB0 : Hid (Below w.heap.size w w0) := hw0 ▸ below_new w _
  have HW0 := Lib.hid hw0
  have HK8 : Hid ((k : Int) % 256 = ((UInt8.ofNat k).toNat : Int)) := byte_mod k
  have s1 : ∀ W, (Instr.slice 22 (.slice (some ⟨w0.heap.size, 0, none⟩) 4096 4096) (some (.int .i64 0)) (some (.int .i64 3)) none).run Tryd.prog W = .ok (.slice (some ⟨w0.heap.size, 0, none⟩) 3 4096) W := pgslice _ 0 3 (by omega) (by omega) (by omega)
  have s2 : ∀ W, (Instr.slice 22 (.slice (some ⟨w0.heap.size, 0, none⟩) 4096 4096) (some (.int .i64 4)) (some (.int .i64 8)) none).run Tryd.prog W = .ok (.slice (some ⟨w0.heap.size, 4, none⟩) 4 4092) W := pgslice _ 4 8 (by omega) (by omega) (by omega)
  have s3 : ∀ W, (Instr.slice 22 (.slice (some ⟨w0.heap.size, 0, none⟩) 4096 4096) (some (.int .i64 16)) none none).run Tryd.prog W = .ok (.slice (some ⟨w0.heap.size, 16, none⟩) 4080 4080) W := pgslice1 _ 16 (by omega)
  have s4 : ∀ W, (Instr.slice 22 (.slice (some ⟨w0.heap.size, 0, none⟩) 4096 4096) (some (.int .i64 12)) (some (.int .i64 16)) none).run Tryd.prog W = .ok (.slice (some ⟨w0.heap.size, 12, none⟩) 4 4084) W := pgslice _ 12 16 (by omega) (by omega) (by omega)
  have HK := Lib.hid h1
  have HK7 := Lib.hid h7
  unfold pageV at hw0 HW0 ⊢
  clear hv hl h1 h7 hw0
  go_enter Tryd.func9, Tryd.ntmps9
  go_wp2_with fail
  refine (isKind_any _ _).mono ?_
  rintro e w1 ⟨rfl, rfl⟩
  rw [HD.out, ← HW0.out]
  have c0 := HX0.out.cells.1
  have c2 := HX0.out.cells.2.2
  go_wp2_with (at_make; refine wpList_make_full _ rfl _ _ 22 rfl w.heap.size 5 i0 _ 1 Tryd.underlying22 hi0 hz0 hz1 _ _ _ _ 4096 rfl rfl rfl rfl (by rw [hz2]; omega) (by simp only [maxLen]; omega) (by have := HB0.out.size; omega) ?_; intro w2 hown2 hg2; have HP2 : Hid (PgSt w w2 w.heap.size w0.heap.size k nn (.slice A m c) (zsB 4096)) := ⟨HX0.out.below (below_none hg2), (own_zeros hown2).lower (Nat.zero_le _), HB0.out.trans ((below_none hg2).mono HB0.out.size), Nat.le_refl _, HB0.out.size⟩; clear hown2 hg2 c0 c2; obtain ⟨w3, hr3, hown3, ht3⟩ := run_copyS w0.heap.size 0 4096 4096 3 4096 (zsB 4096) [84, 77, 1] HP2.out.own (by simp) (by omega); have HP3 : Hid (PgSt w w3 w.heap.size w0.heap.size k nn (.slice A m c) ([84, 77, 1] ++ zsB 4093)) := row1 ▸ HP2.out.row hown3 ht3; have c0 := HP3.out.box.cells.1; have c3 := own_cell HP3.out.own (j := 3) (by rw [HP3.out.len]; omega); have hf3 : w3.frozen? ⟨w0.heap.size, 3, none⟩ = false := World.ownsRow.frozenAt HP3.out.own 3; clear hown3 ht3; generalize (List.getD ([84, 77, 1] ++ zsB 4093) 3 0).toNat = y3 at *)
  rw [HK8.out]
  have HP4 : Hid (PgSt w (w3.setCell ⟨w0.heap.size, 3, none⟩ (.int .u8 ((UInt8.ofNat k).toNat : Int))) w.heap.size w0.heap.size k nn (.slice A m c) ([84, 77, 1, UInt8.ofNat k] ++ zsB 4092)) := row2 (UInt8.ofNat k) ▸ HP3.out.set 3 (UInt8.ofNat k)
  generalize w3.setCell ⟨w0.heap.size, 3, none⟩ (.int .u8 ((UInt8.ofNat k).toNat : Int)) = w4 at *
  replace HP4 : Hid (PgSt w w4.drew w.heap.size w0.heap.size k nn (.slice A m c) ([84, 77, 1, UInt8.ofNat k] ++ zsB 4092)) := HP4.out.below (Below.refl _ _).drew
  refine wp_region_T (R := fun x y => Below x.heap.size x y) (by kernel_rfl) (fun _ => Below.refl _ _) (fun h k => h.trans (k.mono h.size)) (by kernel_rfl) 6 rfl (by kernel_rfl) (by kernel_rfl) (fun d v c a w h => by cases d <;> exact h)
    [(0, false), (1, false), (2, false), (3, false), (4, false), (5, true)] rfl (by kernel_rfl) ?_
  simp only [sel, List.getElem?_toArray, List.getElem?_cons_succ, List.getElem?_cons_zero]
  generalize HG4 : w4.drew = wd at *
  iterate 3 (refine schT_take ?_ rfl ?_ ?_; rotate_left; (focus (intro u hu; go_simp <;> rfl)); simp only [Act.put, List.setIfInBounds_toArray, List.set_cons_zero, List.set_cons_succ])
  (refine schT_take ?_ rfl ?_ ?_; rotate_left; (focus (intro u hu; have c1 := (HP4.out.below hu).box.cells.2.1; clear hu; go_simp <;> rfl)); simp only [Act.put, List.setIfInBounds_toArray, List.set_cons_zero, List.set_cons_succ])
  refine schT_take (.int .u64 (nn : Int)) rfl (fun u _ => conv64 u nn hnn _ _ rfl rfl) ?_
  simp only [Act.put, List.setIfInBounds_toArray, List.set_cons_zero, List.set_cons_succ]
  refine schT_call rfl ?_
  intro K hK
  go_simp
  refine (word_is _ _ [] nn 4 (Byt.nil _) (by omega) (by omega) (by simp)).mono ?_
  rintro e w5 ⟨v5, rfl, hown5, hb5⟩
  go_wp2_with fail
  refine hK _ _ hb5 ?_
  clear hK K
  have HP5 := Lib.hid (HP4.out.below hb5)
  have HO5 := Lib.hid hown5
  obtain ⟨A5, n5, c5, rfl, N5, hnc5, hcm5⟩ := hown5.byt.form
  clear hown5 hb5
  refine schT_nil ?_
  refine schT_last rfl rfl ?_
  refine wp_copyO 30 (.tmp 25) (.tmp 29) rfl rfl w0.heap.size 4 4096 4096 4 4092 _ (wordB 4 nn) _ rfl rfl HP5.out.own HO5.out.byt (by rw [wordB_len]; omega) (by omega) ?_
  intro w6 hown6 ht6 hs6
  have HP6 : Hid (PgSt w w6.drew w.heap.size w0.heap.size k nn (.slice A m c) ([84, 77, 1, UInt8.ofNat k] ++ (wordB 4 nn ++ zsB 4088))) := by
    have := HP5.out.row hown6 ht6
    rw [row3] at this
    exact this.below (Below.refl _ _).drew
  clear hown6 ht6 hs6
  go_wp2_with fail
  refine wp_region_T (R := fun x y => x = y) (by kernel_rfl) (fun _ => rfl) (fun h k => h.trans k) (by kernel_rfl) 4 rfl (by kernel_rfl) (by kernel_rfl) (fun d v c a w h => by cases d <;> exact h)
    [(0, false), (1, false), (2, false), (3, false)] rfl (by kernel_rfl) ?_
  simp only [sel, List.getElem?_toArray, List.getElem?_cons_succ, List.getElem?_cons_zero]
  generalize HG6 : w6.drew = wd6 at *
  iterate 3 (refine schT_take ?_ rfl ?_ ?_; rotate_left; (focus (intro u hu; go_simp <;> rfl)); simp only [Act.put, List.setIfInBounds_toArray, List.set_cons_zero, List.set_cons_succ])
  (refine schT_take ?_ rfl ?_ ?_; rotate_left; (focus (intro u hu; have c2 := (hu ▸ HP6.out).box.cells.2.2; clear hu; go_simp <;> rfl)); simp only [Act.put, List.setIfInBounds_toArray, List.set_cons_zero, List.set_cons_succ])
  refine schT_nil ?_
  refine schT_last rfl rfl ?_
  refine wp_copyO 35 (.tmp 32) (.tmp 34) rfl rfl w0.heap.size 16 4096 4096 4080 4080 _ l _ rfl rfl HP6.out.own (HV.out.below HP6.out.bel) HL.out (by omega) ?_
  intro w7 hown7 ht7 hs7
  have HP7 : Hid (PgSt w w7.drew w.heap.size w0.heap.size k nn (.slice A m c) (headB k nn ++ (zsB 4 ++ padB l))) := by
    have := HP6.out.row hown7 ht7
    rw [row4 k nn HL.out] at this
    exact this.below (Below.refl _ _).drew
  clear hown7 ht7 hs7
  go_wp2_with fail
  refine wp_region_T (R := fun x y => Below x.heap.size x y) (by kernel_rfl) (fun _ => Below.refl _ _) (fun h k => h.trans (k.mono h.size)) (by kernel_rfl) 4 rfl (by kernel_rfl) (by kernel_rfl) (fun d v c a w h => by cases d <;> exact h)
    [(0, false), (1, false), (2, false), (3, true)] rfl (by kernel_rfl) ?_
  simp only [sel, List.getElem?_toArray, List.getElem?_cons_succ, List.getElem?_cons_zero]
  generalize HG7 : w7.drew = wd7 at *
  iterate 3 (refine schT_take ?_ rfl ?_ ?_; rotate_left; (focus (intro u hu; go_simp <;> rfl)); simp only [Act.put, List.setIfInBounds_toArray, List.set_cons_zero, List.set_cons_succ])
  refine schT_call rfl ?_
  intro K hK
  go_simp
  refine (pgsum_any _ _ _ HP7.out.own.byt HP7.out.len).mono ?_
  rintro e w8 ⟨v8, rfl, hown8, hb8⟩
  go_wp2_with fail
  refine hK _ _ hb8 ?_
  clear hK K
  have HP8 := Lib.hid (HP7.out.below hb8)
  have HO8 := Lib.hid hown8
  obtain ⟨A8, n8, c8, rfl, N8, hnc8, hcm8⟩ := hown8.byt.form
  clear hown8 hb8
  refine schT_nil ?_
  refine schT_last rfl rfl ?_
  refine wp_copyO 40 (.tmp 37) (.tmp 39) rfl rfl w0.heap.size 12 4096 4096 4 4084 _ _ _ rfl rfl HP8.out.own HO8.out.byt (by rw [wordB_len]; omega) (by omega) ?_
  intro w9 hown9 ht9 hs9
  have HP9 : Hid (PgSt w w9 w.heap.size w0.heap.size k nn (.slice A m c) (pageB k nn l)) := by
    have := HP8.out.row hown9 ht9
    rw [row5] at this
    exact this
  clear hown9 ht9 hs9
  go_wp2_with fail
  go_ret2
  exact ⟨_, rfl, HP9.out.own.lift HP9.out.hg, HP9.out.bel⟩
end Go.Proofs.YtagchbpofoidmaaDoor

/-
  Package page: Read, Same by their contracts. Conditions: none.
-/
namespace Go.Proofs.YtagchbpofoidmaaDoor
set_option maxRecDepth 100000
open Go.RowKit Go.Maps

theorem wordR_four {m : List UInt8} (h : m.length = 4) : (wordR m 0 4).1 = wordN m := by
  have := read_word 4 (wordN m) [] (by omega)
  rw [List.append_nil, wordB_four h] at this
  have e : wordR m 0 4 = wordR m 0 ((4 : Nat) : Int) := rfl
  rw [e, this]
  have := wordN_lt m
  rw [h] at this
  exact Nat.mod_eq_of_lt this
theorem Box.frozen {w : World} {p : Nat} {k n : Int} {vb : Value} (h : Box w p k n vb) (j : Nat) : w.frozen? ⟨p, j, none⟩ = false := by
  unfold Box at h
  simp [World.frozen?, h]
theorem Box.grown {w w' : World} {p : Nat} {k n : Int} {vb : Value} {g : Nat} (h : Box w p k n vb) (hg : w.grownBy w' (some g)) (hne : p ≠ g) : Box w' p k n vb :=
  (hg.block p h.lt (by simpa using hne)).trans h
theorem Box.set {w : World} {p : Nat} {k n : Int} {vb : Value} (h : Box w p k n vb) (k' n' : Int) (vb' : Value) :
    Box (((w.setCell ⟨p, 0, none⟩ (.int .i64 k')).setCell ⟨p, 1, none⟩ (.int .u32 n')).setCell ⟨p, 2, none⟩ vb') p k' n' vb' := by
  unfold Box at h ⊢
  simp [World.setCell, Array.getElem?_modify, h, pageV]
theorem bel_set3 {B p : Nat} {w u : World} (h : Below B w u) (hp : B ≤ p) (v0 v1 v2 : Value) : Below B w (((u.setCell ⟨p, 0, none⟩ v0).setCell ⟨p, 1, none⟩ v1).setCell ⟨p, 2, none⟩ v2) :=
  ((h.setCell hp _).setCell hp _).setCell hp _
theorem Box.notByte {w : World} {p : Nat} {k n : Int} {A : Option Addr} {m c : Nat} (h : Box w p k n (.slice A m c)) : ¬ ∃ off u, w.cell? ⟨p, off, none⟩ = some (.int .u8 u) := by
  rintro ⟨off, u, hc⟩
  unfold Box at h
  rw [cell_of_row _ _ _ _ _ _ h] at hc
  unfold pageV at hc
  match off, hc with
  | 0, hc => simp at hc
  | 1, hc => simp at hc
  | 2, hc => simp at hc
  | n + 3, hc => simp at hc
theorem Byt.set3 {w : World} {p : Nat} {k n : Int} {A : Option Addr} {m c : Nat} (h : Box w p k n (.slice A m c)) (v0 v1 v2 : Value) {v : Value} {l : List UInt8} (hv : Byt w v l) : Byt (((w.setCell ⟨p, 0, none⟩ v0).setCell ⟨p, 1, none⟩ v1).setCell ⟨p, 2, none⟩ v2) v l := by
  refine hv.keep (by rw [setCell_size, setCell_size, setCell_size]; exact Nat.le_refl _) (fun b hb hu => ?_)
  have hne : b ≠ p := fun e => h.notByte (e ▸ hu)
  rw [heap_cell_other hne, heap_cell_other hne, heap_cell_other hne]
theorem ownsRow_sameB {w w' : World} {B : Nat} {e : TypeId} {v : Value} {n : Nat} {xs : List Value} (h : w.ownsRow B e 1 v n xs) (hb : ∀ k, v.ownBlock = some k → w'.heap[k]? = w.heap[k]?) : w'.ownsRow B e 1 v n xs := by
  refine ⟨h.1, ?_⟩
  rcases h.2 with ⟨rfl, h0⟩ | ⟨g, cap, cur, rfl, hle, hg, r⟩
  · exact .inl ⟨rfl, h0⟩
  · exact .inr ⟨g, cap, cur, rfl, hle, (hb g rfl).trans hg, r⟩
theorem Own.set3 {w : World} {p B : Nat} {k n : Int} {vb : Value} (h : Box w p k n vb) (v0 v1 v2 : Value) {v : Value} {l : List UInt8} (hv : Own w B 5 v l) : Own (((w.setCell ⟨p, 0, none⟩ v0).setCell ⟨p, 1, none⟩ v1).setCell ⟨p, 2, none⟩ v2) B 5 v l := by
  refine ownsRow_sameB hv (fun i hi => ?_)
  obtain ⟨cur, hc⟩ := ownsRow_block (hv.lower (Nat.zero_le _)) hi
  have hne : i ≠ p := tag_ne hc h (by decide)
  rw [heap_cell_other hne, heap_cell_other hne, heap_cell_other hne]
/-- A page that is told. -/
def ReadE (w : World) (l : List UInt8) (e : Ending) (w' : World) : Prop :=
  ∃ v, e = .returned (.tuple #[.agg (pageV ((l.getD 3 0).toNat : Int) (numW l : Int) v), .int .i64 0]) ∧ Own w' w.heap.size 5 v (l.drop 16) ∧ Below w.heap.size w w'
def ReadN (w : World) (e : Ending) (w' : World) : Prop := e = .returned (.tuple #[.agg (pageV 0 0 (.slice none 0 0)), .int .i64 4]) ∧ Below w.heap.size w w'
set_option maxHeartbeats 1000000 in
theorem read_bad (w : World) (v : Value) (l : List UInt8) (hv : Byt w v l) (h : ¬ okB l) : Calls Tryd.prog 10 #[v] w (ReadN w) := by
  have HK : Hid (kindB l = 0) := (kindB_zero l).2 h
  have HV := Lib.hid (hv.alloc (.cells (pageV 0 0 (.slice none 0 0)) 28))
  have HX := Lib.hid (Box.new w 0 0 (.slice none 0 0))
  have HB := Lib.hid (below_new w (.cells (pageV 0 0 (.slice none 0 0)) 28))
  obtain ⟨A, m, c, rfl, N, hnc, hcm⟩ := hv.form
  clear hv h
  generalize hw0 : w.alloc (.cells (pageV 0 0 (.slice none 0 0)) 28) = w0 at *
  have HW0 := Lib.hid hw0
  unfold pageV at HW0
  clear hw0
  go_enter Tryd.func10, Tryd.ntmps10
  go_wp2_with fail
  rw [HW0.out]
  refine (kind_any _ _ l HV.out).mono ?_
  rintro e w1 ⟨rfl, hb1⟩
  rw [HK.out]
  have hx1 := Lib.hid (HX.out.below hb1)
  obtain ⟨c0, c1, c2⟩ := hx1.out.cells
  have f0 := hx1.out.frozen 0
  have f1 := hx1.out.frozen 1
  have f2 := hx1.out.frozen 2
  have HB1 := Lib.hid (HB.out.trans (hb1.mono HB.out.size))
  clear hb1
  go_wp2_with fail
  have HX9 := Lib.hid (hx1.out.set 0 0 (.slice none 0 0))
  have HB9 := Lib.hid (bel_set3 HB1.out (Nat.le_refl _) (.int .i64 0) (.int .u32 0) (.slice none 0 0))
  generalize ((w1.setCell ⟨w.heap.size, 0, none⟩ (.int .i64 0)).setCell ⟨w.heap.size, 1, none⟩ (.int .u32 0)).setCell ⟨w.heap.size, 2, none⟩ (.slice none 0 0) = w9 at *
  obtain ⟨d0, d1, d2⟩ := HX9.out.cells
  refine bodyPost_ret (v := .tuple #[.agg (pageV 0 0 (.slice none 0 0)), .int .i64 4]) (by simp [results, Tryd.results10, go_sem, pageV, d0, d1, d2]) rfl ?_
  exact ⟨rfl, HB9.out⟩
set_option maxRecDepth 100000 in
set_option maxHeartbeats 4000000 in
theorem read_ok (w : World) (v : Value) (l : List UInt8) (hv : Byt w v l) (h : okB l) : Calls Tryd.prog 10 #[v] w (ReadE w l) := by
  have hl := h.1.1
  have HK : Hid (kindB l = (l.getD 3 0).toNat) := kindB_ok h
  have hk1 := h.2.1.1
  have HX := Lib.hid (Box.new w 0 0 (.slice none 0 0))
  have HB := Lib.hid (below_new w (.cells (pageV 0 0 (.slice none 0 0)) 28))
  obtain ⟨A, m, c, rfl, N, hnc, hcm⟩ := hv.form
  obtain rfl : m = 4096 := N.out.trans hl
  obtain ⟨A1, n1, c1, r1, b1, N1, _, _⟩ := hv.midrun 4 8 (by omega) (by omega)
  have r1' : ∀ W, (Instr.slice 22 (.slice A 4096 c) (some (.int .i64 4)) (some (.int .i64 8)) none).run Tryd.prog W = .ok (.slice A1 n1 c1) W := r1
  obtain ⟨A2, n2, c2, r2, b2, N2, _, _⟩ := hv.midrun 16 4096 (by omega) (by omega)
  have r2' : ∀ W, (Instr.slice 22 (.slice A 4096 c) (some (.int .i64 16)) (some (.int .i64 4096)) none).run Tryd.prog W = .ok (.slice A2 n2 c2) W := r2
  have HV := Lib.hid hv
  have H4 : Hid ((l.drop 4).take (8 - 4) = (l.drop 4).take 4) := rfl
  have hd : (l.drop 16).take (4096 - 16) = l.drop 16 := List.take_of_length_le (by rw [List.length_drop]; omega)
  rw [hd] at b2
  have B1 : Hid (Byt w (.slice A1 n1 c1) ((l.drop 4).take 4)) := b1
  have B2 := Lib.hid b2
  have HW : Hid ((wordR ((l.drop 4).take 4) 0 4).1 = numW l) := wordR_four (by rw [List.length_take, List.length_drop]; omega)
  have HNL := Lib.hid (numW_lt l)
  have HL4 : Hid (((l.drop 4).take 4).length ≤ 4) := by rw [Hid, List.length_take]; omega
  have HLL := Lib.hid hl
  clear hv h r1 r2 b1 b2 hd
  unfold ReadE
  generalize hx : (l.getD 3 0).toNat = x at *
  have hne : ((x : Int) == 0) = false := by simp; omega
  generalize hw0 : w.alloc (.cells (pageV 0 0 (.slice none 0 0)) 28) = w0 at *
  have HW0 := Lib.hid hw0
  unfold pageV at HW0
  clear hw0 hx
  go_enter Tryd.func10, Tryd.ntmps10
  go_wp2_with fail
  rw [HW0.out]
  refine (kind_any _ _ l (HV.out.below HB.out)).mono ?_
  rintro e w1 ⟨rfl, hb1⟩
  rw [HK.out]
  have HX1 := Lib.hid (HX.out.below hb1)
  have HB1 := Lib.hid (HB.out.trans (hb1.mono HB.out.size))
  clear hb1
  go_wp2_with fail
  refine (new_any _ _ _ (B1.out.below HB1.out) (by have := HL4.out; omega)).mono ?_
  rintro e w2 ⟨g, rfl, hg, hr2, hb2⟩
  have HX2 := Lib.hid (HX1.out.below hb2)
  have HB2 := Lib.hid (HB1.out.trans (hb2.mono HB1.out.size))
  have HR2 := Lib.hid hr2
  have HNE : Hid (w.heap.size ≠ g) := by have := HX1.out.lt; rw [Hid]; omega
  have HG : Hid (w.heap.size ≤ g) := by have := HB1.out.size; rw [Hid]; omega
  clear hr2 hb2 hg
  go_wp2_with fail
  refine (rword_is _ g 0 _ 4 HR2.out (by have := HL4.out; omega)).mono ?_
  rintro e w3 ⟨rfl, hr3, hg3⟩
  rw [HW.out]
  have HX3 := Lib.hid (HX2.out.grown hg3 HNE.out)
  have HB3 := Lib.hid (HB2.out.grown hg3 HB2.out.size (fun k e => by injection e with e; exact e ▸ HG.out))
  clear hr3 hg3
  have HNW : Hid ((numW l : Int) % 4294967296 = (numW l : Int)) := by have := HNL.out; rw [Hid]; omega
  generalize hnw : numW l = nw at *
  have HQ := Lib.hid hnw
  clear hnw
  go_wp2_with fail
  refine (cloneb_any _ _ _ (B2.out.below HB3.out) (by rw [List.length_drop]; have := HLL.out; omega)).mono ?_
  rintro e w4 ⟨v4, rfl, hown4, hb4⟩
  have HX4 := Lib.hid (HX3.out.below hb4)
  have HB4 := Lib.hid (HB3.out.trans (hb4.mono HB3.out.size))
  have HO4 := Lib.hid (hown4.lower HB3.out.size)
  obtain ⟨A4, n4, c4, rfl, N4, hnc4, hcm4⟩ := hown4.byt.form
  obtain ⟨d0, d1, d2⟩ := HX4.out.cells
  have f0 := HX4.out.frozen 0
  have f1 := HX4.out.frozen 1
  have f2 := HX4.out.frozen 2
  clear hown4 hb4
  go_wp2_with fail
  rw [HNW.out]
  have HX9 := Lib.hid (HX4.out.set x nw (.slice A4 n4 c4))
  have HB9 := Lib.hid (bel_set3 HB4.out (Nat.le_refl _) (.int .i64 x) (.int .u32 nw) (.slice A4 n4 c4))
  have HO9 := Lib.hid (Own.set3 HX4.out (.int .i64 x) (.int .u32 nw) (.slice A4 n4 c4) HO4.out)
  generalize ((w4.setCell ⟨w.heap.size, 0, none⟩ (.int .i64 x)).setCell ⟨w.heap.size, 1, none⟩ (.int .u32 nw)).setCell ⟨w.heap.size, 2, none⟩ (.slice A4 n4 c4) = w9 at *
  clear d0 d1 d2
  obtain ⟨d0, d1, d2⟩ := HX9.out.cells
  refine bodyPost_ret (v := .tuple #[.agg (pageV x nw (.slice A4 n4 c4)), .int .i64 0]) (by simp [results, Tryd.results10, go_sem, pageV, d0, d1, d2]) rfl ?_
  exact ⟨_, by rw [HQ.out], HO9.out, HB9.out⟩
/-- What a call that tells yes or no, and may make memory, leaves. -/
def BoolB (w : World) (b : Bool) (e : Ending) (w' : World) : Prop := e = .returned (.bool b) ∧ Below w.heap.size w w'
set_option maxRecDepth 100000 in
set_option maxHeartbeats 4000000 in
theorem same_any (w : World) (k n k' n' : Int) (va vb : Value) (l l' : List UInt8) (hva : Byt w va l) (hvb : Byt w vb l') :
    Calls Tryd.prog 17 #[.agg (pageV k n va), .agg (pageV k' n' vb)] w (BoolB w (decide (k = k' ∧ n = n' ∧ trimR l = trimR l'))) := by
  obtain ⟨A1, m1, c1, rfl, N1, hnc1, hcm1⟩ := hva.form
  obtain ⟨A2, m2, c2, rfl, N2, hnc2, hcm2⟩ := hvb.form
  obtain ⟨w1, hw1⟩ : ∃ w1, w1 = w.alloc (.cells (pageV k n (.slice A1 m1 c1)) 28) := ⟨_, rfl⟩
  obtain ⟨w2, hw2⟩ : ∃ w2, w2 = w1.alloc (.cells (pageV k' n' (.slice A2 m2 c2)) 28) := ⟨_, rfl⟩
  have hb1 : Below w.heap.size w w1 := hw1 ▸ below_new w _
  have hb2 : Below w1.heap.size w1 w2 := hw2 ▸ below_new w1 _
  have HB : Hid (Below w.heap.size w w2.drew) := (hb1.trans (hb2.mono hb1.size)).drew
  have HXA : Hid (Box w2.drew w.heap.size k n (.slice A1 m1 c1)) := (hw1 ▸ Box.new w k n (.slice A1 m1 c1) : Box w1 _ _ _ _).below hb2.drew
  have HXB : Hid (Box w2.drew (w.heap.size + 1) k' n' (.slice A2 m2 c2)) := by
    have : Box w2 w1.heap.size k' n' (.slice A2 m2 c2) := hw2 ▸ Box.new w1 k' n' (.slice A2 m2 c2)
    rw [show w1.heap.size = w.heap.size + 1 by rw [hw1]; simp] at this
    exact this
  have HVA : Hid (Byt w2.drew (.slice A1 m1 c1) l) := hva.below HB.out
  have HVB : Hid (Byt w2.drew (.slice A2 m2 c2) l') := hvb.below HB.out
  have HW2 : Hid ((w.alloc (.cells (pageV k n (.slice A1 m1 c1)) 28)).alloc (.cells (pageV k' n' (.slice A2 m2 c2)) 28) = w2) := by rw [Hid, hw2, hw1]
  clear hva hvb hb1 hb2 hw1 hw2
  unfold pageV at HW2 ⊢
  by_cases hk : k = k'
  · subst hk
    by_cases hn : n = n'
    · subst hn
      have HD : Hid (decide (k = k ∧ n = n ∧ trimR l = trimR l') = decide (trimR l = trimR l')) := by rw [Hid]; simp
      go_enter Tryd.func17, Tryd.ntmps17
      go_wp2_with fail
      refine wp_region_R (R := fun x y => Below x.heap.size x y) (by kernel_rfl) (fun _ => Below.refl _ _) (fun h k => h.trans (k.mono h.size)) (by kernel_rfl) (fun d v c a w h => by cases d <;> exact h)
        [(0, false), (1, false), (2, false), (3, false), (4, false), (5, false), (6, false), (7, false), (8, false), (9, false), (10, false), (11, false), (12, false), (13, false), (14, false), (16, false), (17, false), (15, true), (18, true), (19, true), (20, false), (21, false)] rfl (by kernel_rfl) (by kernel_rfl) ?_
      simp only [sel, List.getElem?_toArray, List.getElem?_cons_succ, List.getElem?_cons_zero]
      rw [HW2.out]
      generalize w2.drew = wd at *
      (refine sch_take ?_ rfl ?_ ?_; rotate_left; (focus (intro u hu; go_simp <;> rfl)); simp only [Act.put, List.setIfInBounds_toArray, List.set_cons_zero, List.set_cons_succ])
      (refine sch_take ?_ rfl ?_ ?_; rotate_left; (focus (intro u hu; have c := (HXA.out.below hu).cells.1; clear hu; go_simp <;> rfl)); simp only [Act.put, List.setIfInBounds_toArray, List.set_cons_zero, List.set_cons_succ])
      (refine sch_take ?_ rfl ?_ ?_; rotate_left; (focus (intro u hu; go_simp <;> rfl)); simp only [Act.put, List.setIfInBounds_toArray, List.set_cons_zero, List.set_cons_succ])
      (refine sch_take ?_ rfl ?_ ?_; rotate_left; (focus (intro u hu; have c := (HXB.out.below hu).cells.1; clear hu; go_simp <;> rfl)); simp only [Act.put, List.setIfInBounds_toArray, List.set_cons_zero, List.set_cons_succ])
      iterate 3 (refine sch_take ?_ rfl ?_ ?_; rotate_left; (focus (intro u hu; go_simp <;> rfl)); simp only [Act.put, List.setIfInBounds_toArray, List.set_cons_zero, List.set_cons_succ])
      (refine sch_take ?_ rfl ?_ ?_; rotate_left; (focus (intro u hu; have c := (HXA.out.below hu).cells.2.1; clear hu; go_simp <;> rfl)); simp only [Act.put, List.setIfInBounds_toArray, List.set_cons_zero, List.set_cons_succ])
      (refine sch_take ?_ rfl ?_ ?_; rotate_left; (focus (intro u hu; go_simp <;> rfl)); simp only [Act.put, List.setIfInBounds_toArray, List.set_cons_zero, List.set_cons_succ])
      (refine sch_take ?_ rfl ?_ ?_; rotate_left; (focus (intro u hu; have c := (HXB.out.below hu).cells.2.1; clear hu; go_simp <;> rfl)); simp only [Act.put, List.setIfInBounds_toArray, List.set_cons_zero, List.set_cons_succ])
      iterate 4 (refine sch_take ?_ rfl ?_ ?_; rotate_left; (focus (intro u hu; go_simp <;> rfl)); simp only [Act.put, List.setIfInBounds_toArray, List.set_cons_zero, List.set_cons_succ])
      (refine sch_take ?_ rfl ?_ ?_; rotate_left; (focus (intro u hu; have c := (HXA.out.below hu).cells.2.2; clear hu; go_simp <;> rfl)); simp only [Act.put, List.setIfInBounds_toArray, List.set_cons_zero, List.set_cons_succ])
      (refine sch_take ?_ rfl ?_ ?_; rotate_left; (focus (intro u hu; go_simp <;> rfl)); simp only [Act.put, List.setIfInBounds_toArray, List.set_cons_zero, List.set_cons_succ])
      (refine sch_take ?_ rfl ?_ ?_; rotate_left; (focus (intro u hu; have c := (HXB.out.below hu).cells.2.2; clear hu; go_simp <;> rfl)); simp only [Act.put, List.setIfInBounds_toArray, List.set_cons_zero, List.set_cons_succ])
      refine sch_call rfl ?_
      intro K hK
      go_simp
      refine (trimmed_any _ _ _ HVA.out).mono ?_
      rintro e w3 ⟨v3, rfl, hb3, rfl⟩
      go_wp2_with fail
      refine hK _ _ (Below.refl _ _) ?_
      clear hK K
      have H3 := Lib.hid hb3
      obtain ⟨A3, n3, c3, rfl, N3, hnc3, hcm3⟩ := hb3.form
      clear hb3
      refine sch_call rfl ?_
      intro K hK
      go_simp
      refine (trimmed_any _ _ _ HVB.out).mono ?_
      rintro e w4 ⟨v4, rfl, hb4, rfl⟩
      go_wp2_with fail
      refine hK _ _ (Below.refl _ _) ?_
      clear hK K
      have H4 := Lib.hid hb4
      obtain ⟨A4, n4, c4, rfl, N4, hnc4, hcm4⟩ := hb4.form
      clear hb4
      refine sch_call rfl ?_
      intro K hK
      go_simp
      refine (equal_any _ _ _ _ _ H3.out H4.out).mono ?_
      rintro e w5 ⟨rfl, rfl⟩; obtain ⟨bq, HE⟩ : ∃ bq, Hid (decide (trimR l = trimR l') = bq) := ⟨_, rfl⟩; rw [HE.out]
      go_wp2_with fail
      refine hK _ _ (Below.refl _ _) ?_
      clear hK K
      iterate 2 (refine sch_take ?_ rfl ?_ ?_; rotate_left; (focus (intro u hu; go_simp <;> rfl)); simp only [Act.put, List.setIfInBounds_toArray, List.set_cons_zero, List.set_cons_succ])
      refine sch_nil ?_
      go_wp2_with fail
      go_ret
      rw [HD.out, HE.out]
      exact ⟨rfl, HB.out⟩
    · have hne : (n == n') = false := by simp; exact hn
      have HD : Hid (decide (k = k ∧ n = n' ∧ trimR l = trimR l') = false) := by rw [Hid]; simp [hn]
      clear hn
      go_enter Tryd.func17, Tryd.ntmps17
      go_wp2_with fail
      refine wp_region_R (R := fun x y => Below x.heap.size x y) (by kernel_rfl) (fun _ => Below.refl _ _) (fun h k => h.trans (k.mono h.size)) (by kernel_rfl) (fun d v c a w h => by cases d <;> exact h)
        [(0, false), (1, false), (2, false), (3, false), (4, false), (5, false), (6, false), (7, false), (8, false), (9, false), (10, false), (11, false), (12, false), (13, false), (14, false), (16, false), (17, false), (15, true), (18, true), (19, true), (20, false), (21, false)] rfl (by kernel_rfl) (by kernel_rfl) ?_
      simp only [sel, List.getElem?_toArray, List.getElem?_cons_succ, List.getElem?_cons_zero]
      rw [HW2.out]
      generalize w2.drew = wd at *
      (refine sch_take ?_ rfl ?_ ?_; rotate_left; (focus (intro u hu; go_simp <;> rfl)); simp only [Act.put, List.setIfInBounds_toArray, List.set_cons_zero, List.set_cons_succ])
      (refine sch_take ?_ rfl ?_ ?_; rotate_left; (focus (intro u hu; have c := (HXA.out.below hu).cells.1; clear hu; go_simp <;> rfl)); simp only [Act.put, List.setIfInBounds_toArray, List.set_cons_zero, List.set_cons_succ])
      (refine sch_take ?_ rfl ?_ ?_; rotate_left; (focus (intro u hu; go_simp <;> rfl)); simp only [Act.put, List.setIfInBounds_toArray, List.set_cons_zero, List.set_cons_succ])
      (refine sch_take ?_ rfl ?_ ?_; rotate_left; (focus (intro u hu; have c := (HXB.out.below hu).cells.1; clear hu; go_simp <;> rfl)); simp only [Act.put, List.setIfInBounds_toArray, List.set_cons_zero, List.set_cons_succ])
      iterate 3 (refine sch_take ?_ rfl ?_ ?_; rotate_left; (focus (intro u hu; go_simp <;> rfl)); simp only [Act.put, List.setIfInBounds_toArray, List.set_cons_zero, List.set_cons_succ])
      (refine sch_take ?_ rfl ?_ ?_; rotate_left; (focus (intro u hu; have c := (HXA.out.below hu).cells.2.1; clear hu; go_simp <;> rfl)); simp only [Act.put, List.setIfInBounds_toArray, List.set_cons_zero, List.set_cons_succ])
      (refine sch_take ?_ rfl ?_ ?_; rotate_left; (focus (intro u hu; go_simp <;> rfl)); simp only [Act.put, List.setIfInBounds_toArray, List.set_cons_zero, List.set_cons_succ])
      (refine sch_take ?_ rfl ?_ ?_; rotate_left; (focus (intro u hu; have c := (HXB.out.below hu).cells.2.1; clear hu; go_simp <;> rfl)); simp only [Act.put, List.setIfInBounds_toArray, List.set_cons_zero, List.set_cons_succ])
      iterate 3 (refine sch_take ?_ rfl ?_ ?_; rotate_left; (focus (intro u hu; go_simp <;> rfl)); simp only [Act.put, List.setIfInBounds_toArray, List.set_cons_zero, List.set_cons_succ])
      refine sch_idle rfl ?_
      simp only [Act.put, List.setIfInBounds_toArray, List.set_cons_zero, List.set_cons_succ]
      refine sch_idle rfl ?_
      simp only [Act.put, List.setIfInBounds_toArray, List.set_cons_zero, List.set_cons_succ]
      refine sch_idle rfl ?_
      simp only [Act.put, List.setIfInBounds_toArray, List.set_cons_zero, List.set_cons_succ]
      refine sch_idle rfl ?_
      simp only [Act.put, List.setIfInBounds_toArray, List.set_cons_zero, List.set_cons_succ]
      refine sch_idleC rfl ?_
      simp only [Act.put, List.setIfInBounds_toArray, List.set_cons_zero, List.set_cons_succ]
      refine sch_idleC rfl ?_
      simp only [Act.put, List.setIfInBounds_toArray, List.set_cons_zero, List.set_cons_succ]
      refine sch_idleC rfl ?_
      simp only [Act.put, List.setIfInBounds_toArray, List.set_cons_zero, List.set_cons_succ]
      iterate 2 (refine sch_take ?_ rfl ?_ ?_; rotate_left; (focus (intro u hu; go_simp <;> rfl)); simp only [Act.put, List.setIfInBounds_toArray, List.set_cons_zero, List.set_cons_succ])
      refine sch_nil ?_
      go_wp2_with fail
      go_ret
      rw [HD.out]
      exact ⟨rfl, HB.out⟩
  · have hne : (k == k') = false := by simp; exact hk
    have HD : Hid (decide (k = k' ∧ n = n' ∧ trimR l = trimR l') = false) := by rw [Hid]; simp [hk]
    clear hk
    go_enter Tryd.func17, Tryd.ntmps17
    go_wp2_with fail
    refine wp_region_R (R := fun x y => Below x.heap.size x y) (by kernel_rfl) (fun _ => Below.refl _ _) (fun h k => h.trans (k.mono h.size)) (by kernel_rfl) (fun d v c a w h => by cases d <;> exact h)
      [(0, false), (1, false), (2, false), (3, false), (4, false), (5, false), (6, false), (7, false), (8, false), (9, false), (10, false), (11, false), (12, false), (13, false), (14, false), (16, false), (17, false), (15, true), (18, true), (19, true), (20, false), (21, false)] rfl (by kernel_rfl) (by kernel_rfl) ?_
    simp only [sel, List.getElem?_toArray, List.getElem?_cons_succ, List.getElem?_cons_zero]
    rw [HW2.out]
    generalize w2.drew = wd at *
    (refine sch_take ?_ rfl ?_ ?_; rotate_left; (focus (intro u hu; go_simp <;> rfl)); simp only [Act.put, List.setIfInBounds_toArray, List.set_cons_zero, List.set_cons_succ])
    (refine sch_take ?_ rfl ?_ ?_; rotate_left; (focus (intro u hu; have c := (HXA.out.below hu).cells.1; clear hu; go_simp <;> rfl)); simp only [Act.put, List.setIfInBounds_toArray, List.set_cons_zero, List.set_cons_succ])
    (refine sch_take ?_ rfl ?_ ?_; rotate_left; (focus (intro u hu; go_simp <;> rfl)); simp only [Act.put, List.setIfInBounds_toArray, List.set_cons_zero, List.set_cons_succ])
    (refine sch_take ?_ rfl ?_ ?_; rotate_left; (focus (intro u hu; have c := (HXB.out.below hu).cells.1; clear hu; go_simp <;> rfl)); simp only [Act.put, List.setIfInBounds_toArray, List.set_cons_zero, List.set_cons_succ])
    iterate 2 (refine sch_take ?_ rfl ?_ ?_; rotate_left; (focus (intro u hu; go_simp <;> rfl)); simp only [Act.put, List.setIfInBounds_toArray, List.set_cons_zero, List.set_cons_succ])
    refine sch_idle rfl ?_
    simp only [Act.put, List.setIfInBounds_toArray, List.set_cons_zero, List.set_cons_succ]
    refine sch_idle rfl ?_
    simp only [Act.put, List.setIfInBounds_toArray, List.set_cons_zero, List.set_cons_succ]
    refine sch_idle rfl ?_
    simp only [Act.put, List.setIfInBounds_toArray, List.set_cons_zero, List.set_cons_succ]
    refine sch_idle rfl ?_
    simp only [Act.put, List.setIfInBounds_toArray, List.set_cons_zero, List.set_cons_succ]
    refine sch_idle rfl ?_
    simp only [Act.put, List.setIfInBounds_toArray, List.set_cons_zero, List.set_cons_succ]
    iterate 2 (refine sch_take ?_ rfl ?_ ?_; rotate_left; (focus (intro u hu; go_simp <;> rfl)); simp only [Act.put, List.setIfInBounds_toArray, List.set_cons_zero, List.set_cons_succ])
    refine sch_idle rfl ?_
    simp only [Act.put, List.setIfInBounds_toArray, List.set_cons_zero, List.set_cons_succ]
    refine sch_idle rfl ?_
    simp only [Act.put, List.setIfInBounds_toArray, List.set_cons_zero, List.set_cons_succ]
    refine sch_idle rfl ?_
    simp only [Act.put, List.setIfInBounds_toArray, List.set_cons_zero, List.set_cons_succ]
    refine sch_idle rfl ?_
    simp only [Act.put, List.setIfInBounds_toArray, List.set_cons_zero, List.set_cons_succ]
    refine sch_idleC rfl ?_
    simp only [Act.put, List.setIfInBounds_toArray, List.set_cons_zero, List.set_cons_succ]
    refine sch_idleC rfl ?_
    simp only [Act.put, List.setIfInBounds_toArray, List.set_cons_zero, List.set_cons_succ]
    refine sch_idleC rfl ?_
    simp only [Act.put, List.setIfInBounds_toArray, List.set_cons_zero, List.set_cons_succ]
    iterate 2 (refine sch_take ?_ rfl ?_ ?_; rotate_left; (focus (intro u hu; go_simp <;> rfl)); simp only [Act.put, List.setIfInBounds_toArray, List.set_cons_zero, List.set_cons_succ])
    refine sch_nil ?_
    go_wp2_with fail
    go_ret
    rw [HD.out]
    exact ⟨rfl, HB.out⟩
end Go.Proofs.YtagchbpofoidmaaDoor

/-
  The laws of layer 5: their 'lives', and a page that comes in. Conditions: none.
-/
namespace Go.Proofs.YtagchbpofoidmaaDoor
set_option maxRecDepth 100000
open Go.RowKit Go.Maps

/-- Read of a page's bytes. -/
def ReadP (w : World) (k n : Nat) (l : List UInt8) (e : Ending) (w' : World) : Prop :=
  ∃ v, e = .returned (.tuple #[.agg (pageV (k : Int) (n : Int) v), .int .i64 0]) ∧ Own w' w.heap.size 5 v l ∧ Below w.heap.size w w'
theorem read_page (w : World) (v : Value) (k n : Nat) (l : List UInt8) (hv : Byt w v (pageB k n l)) (h1 : 1 ≤ k) (h7 : k ≤ 7) (hl : l.length ≤ 4080) (hn : n < 4294967296) : Calls Tryd.prog 10 #[v] w (ReadP w k n (padB l)) := by
  have := read_ok w v _ hv (pageB_ok h1 h7 hl)
  unfold ReadE at this
  rw [pageB_kind k n l (by omega), pageB_num k n l hn, pageB_drop] at this
  exact this
theorem lives5_head : (pageB 6 258 [97, 98]).take 12 = [84, 77, 1, 6, 2, 1, 0, 0, 0, 0, 0, 0] := by rw [pageB_take]; decide
theorem lives5_body : (padB [97, 98]).take 3 = [97, 98, 0] := by
  unfold padB
  rw [show 4080 - [(97 : UInt8), 98].length = 1 + 4077 from rfl, zs_split]
  rfl
set_option maxRecDepth 100000 in
set_option maxHeartbeats 4000000 in
theorem lives5_any (w : World) : Calls Tryd.prog 13 #[] w (BoolB w true) := by
  have kc := fun (w : World) (C : Array Value) (n c : Nat) => Lib.run_convert_bytes_const (P := Tryd.prog) w 22 5 C n c Tryd.underlying22 Tryd.underlying5
  obtain ⟨w0, hw0⟩ : ∃ w0, w0 = w.alloc (.cells #[.int .u8 97, .int .u8 98] 5 (2, 3)) := ⟨_, rfl⟩
  have HV0 : Hid (Byt w0 (.slice (some ⟨w.heap.size, 0, none⟩) 2 2) [97, 98]) := hw0 ▸ Byt.lit w 5 [97, 98] (2, 3) (by simp [maxLen])
  have HB0 : Hid (Below w.heap.size w w0) := hw0 ▸ below_new w _
  have HW0 : Hid (w.alloc (.cells #[.int .u8 97, .int .u8 98] 5 (2, 3)) = w0) := hw0.symm
  clear hw0
  go_enter Tryd.func13, Tryd.ntmps13
  go_wp2_with fail
  rw [HW0.out]
  refine (bytes_ok w0 6 258 _ [97, 98] HV0.out (by omega) (by omega) (by simp) (by omega)).mono ?_
  rintro e w1 ⟨v1, rfl, hown1, hb1⟩
  have HO1 := Lib.hid hown1
  have HB1 := Lib.hid (HB0.out.trans (hb1.mono HB0.out.size))
  have hf := hown1.byt.form
  obtain ⟨A1, n1, c1, rfl, N1, hnc1, hcm1⟩ := hf
  obtain rfl : n1 = 4096 := N1.out.trans (pageB_len (by simp))
  obtain ⟨A2, n2, c2, r2, b2, N2, _, _⟩ := hown1.byt.uptorun 22 elemByte sizeByte 12 (by omega) .i64
  have r2' : ∀ W, (Instr.slice 22 (.slice A1 4096 c1) none (some (.int .i64 12)) none).run Tryd.prog W = .ok (.slice A2 n2 c2) W := r2
  have T2 := text_of b2
  have E2 := bytes_lit ((pageB 6 258 [97, 98]).take 12) [84, 77, 1, 6, 2, 1, 0, 0, 0, 0, 0, 0]
  rw [decide_eq_true lives5_head] at E2
  generalize (⟨((pageB 6 258 [97, 98]).take 12).toArray⟩ : ByteArray) = s2 at *
  clear hown1 hb1 r2 b2 N1
  go_wp2_with fail
  refine (read_page w1 _ 6 258 [97, 98] HO1.out.byt (by omega) (by omega) (by simp) (by omega)).mono ?_
  rintro e w2 ⟨v3, rfl, hown3, hb3⟩
  have HO3 := Lib.hid hown3
  have HB3 := Lib.hid (HB1.out.trans (hb3.mono HB1.out.size))
  have hf := hown3.byt.form
  obtain ⟨A3, n3, c3, rfl, N3, hnc3, hcm3⟩ := hf
  obtain rfl : n3 = 4080 := N3.out.trans (padB_len (by simp))
  obtain ⟨A4, n4, c4, r4, b4, N4, _, _⟩ := hown3.byt.uptorun 22 elemByte sizeByte 3 (by omega) .i64
  have r4' : ∀ W, (Instr.slice 22 (.slice A3 4080 c3) none (some (.int .i64 3)) none).run Tryd.prog W = .ok (.slice A4 n4 c4) W := r4
  have T4 : ∀ W, Below w2.heap.size w2 W → (convert 22 9 (.slice A4 n4 c4)).run Tryd.prog W = .ok (.string ⟨((padB [97, 98]).take 3).toArray⟩) W := fun W hW => text_of (b4.below hW)
  have T4' := T4 _ (below_new w2 (.cells (pageV 6 258 (.slice A3 4080 c3)) 28))
  unfold pageV at T4'
  have E4 := bytes_lit ((padB [97, 98]).take 3) [97, 98, 0]
  rw [decide_eq_true lives5_body] at E4
  generalize (⟨((padB [97, 98]).take 3).toArray⟩ : ByteArray) = s4 at *
  clear hown3 hb3 r4 b4 N3 T4
  have k2 := kc (w2.alloc (.cells #[.int .i64 6, .int .u32 258, .slice A3 4080 c3] 28)) #[.int .u8 97, .int .u8 98] 2 2
  rw [World.size_alloc] at k2
  have HL5 := Lib.hid (Byt.lit (w2.alloc (.cells #[.int .i64 6, .int .u32 258, .slice A3 4080 c3] 28)) 5 [97, 98] (2, 3) (by simp [maxLen]))
  rw [World.size_alloc] at HL5
  unfold pageV
  go_wp2_with fail
  refine (same_any _ 6 258 6 258 _ _ (padB [97, 98]) [97, 98] ((HO3.out.byt.alloc _).alloc _) HL5.out).mono ?_
  rw [padB_trim, show decide ((6 : Int) = 6 ∧ (258 : Int) = 258 ∧ trimR [97, 98] = trimR [97, 98]) = true from by simp]
  rintro e w4 ⟨rfl, hb4⟩
  go_wp2_with fail
  go_ret
  have h5 := HB3.out.alloc HB3.out.size (.cells (pageV 6 258 (.slice A3 4080 c3)) 28)
  have h6 := h5.alloc h5.size (.cells #[.int .u8 97, .int .u8 98] 5 (2, 3))
  exact ⟨rfl, h6.trans (hb4.mono h6.size)⟩
end Go.Proofs.YtagchbpofoidmaaDoor

/-
  A page that came in, opened: what its cells hold. Conditions: none.
-/
namespace Go.Proofs.YtagchbpofoidmaaDoor
set_option maxRecDepth 100000
open Go.ChangeShapes Go.WideShapes Go.ChangeAt Go.RowKit Go.Deep Go.Maps

theorem cellP0 : Tryd.prog.cellsOf 3 = 1 := by kernel_rfl
theorem cellP1 : Tryd.prog.cellsOf 26 = 1 := by kernel_rfl
theorem cellP2 : Tryd.prog.cellsOf 22 = 1 := by kernel_rfl
theorem cellPage : Tryd.prog.cellsOf 28 = 3 := by kernel_rfl
section
variable {H : Type} {enc : TypeId × Value → H} {W : World}
theorem open_bytesF {fuel : Nat} {cs : List Value} {x : DataW H × List MemPlace} (h : DataW.trod enc Tryd.prog W 0 (fun _ => true) true fuel 22 cs = some x) : ∃ (v : Value) (l : List UInt8), cs = [v] ∧ Byt W v l := by
  obtain ⟨d, p⟩ := x
  rcases open_ints Tryd.underlying22 Tryd.underlying5 (by kernel_rfl) h with ⟨hcs, _⟩ | ⟨a, len, cap, zs, hcs, _⟩
  · exact ⟨_, [], hcs, Byt.nil W⟩
  · subst hcs
    obtain ⟨l, hl⟩ := open_bytesV h
    exact ⟨_, l, rfl, hl⟩
theorem open_pageF {fuel : Nat} {cs : List Value} {x : DataW H × List MemPlace} (h : DataW.trod enc Tryd.prog W 0 (fun _ => true) true fuel 28 cs = some x) :
    ∃ (k : Int) (n : Nat) (vb : Value) (l : List UInt8), cs = [.int .i64 k, .int .u32 (n : Int), vb] ∧ Byt W vb l ∧ (-9223372036854775808 ≤ k ∧ k ≤ 9223372036854775807) ∧ n < 4294967296 := by
  obtain ⟨y0, y1, y2, n, _, hl, g0, g1, g2⟩ := trod_struct3 Tryd.underlying28 h
  rw [cellPage] at hl
  simp only [cellP0, cellP1, cellP2] at g0 g1 g2
  obtain ⟨k, e0, _, w0⟩ := DataW.trod_int Tryd.underlying3 g0
  obtain ⟨nn, e1, _, w1⟩ := DataW.trod_int Tryd.underlying26 g1
  obtain ⟨vb, l, e2, hb⟩ := open_bytesF g2
  obtain ⟨n32, rfl, hn⟩ := open_u32 w1
  match cs, hl with
  | [c0, c1, c2], _ =>
    simp at e0 e1 e2
    subst e0 e1 e2
    exact ⟨k, n32, c2, l, rfl, hb, open_i64 w0, hn⟩
theorem open_page {base : Nat} {v : Value} {d : DataW H} {p : List MemPlace}
    (hv : Value.okWide Tryd.prog W .any base 28 v) (h : DataW.Trod enc Tryd.prog W 0 (fun _ => true) true 28 v d p) :
    ∃ (k : Int) (n : Nat) (vb : Value) (l : List UInt8), v = .agg (pageV k (n : Int) vb) ∧ Byt W vb l ∧ (-9223372036854775808 ≤ k ∧ k ≤ 9223372036854775807) ∧ n < 4294967296 := by
  obtain ⟨cs, rfl, _⟩ := okWide_struct Tryd.underlying28 hv
  obtain ⟨fuel, hf⟩ := h
  obtain ⟨k, n, vb, l, e, hb, b1, b2⟩ := open_pageF hf
  refine ⟨k, n, vb, l, ?_, hb, b1, b2⟩
  simp [Value.cells] at e
  obtain ⟨l⟩ := cs
  simp at e
  subst e
  rfl
end
end Go.Proofs.YtagchbpofoidmaaDoor

/-
  Small facts that the laws of layer 5 share. Conditions: none.
-/
namespace Go.Proofs.YtagchbpofoidmaaDoor
set_option maxRecDepth 100000
open Go.RowKit Go.Maps

theorem byte_xor (x y : UInt8) : bits .xor .u8 (x.toNat : Int) (y.toNat : Int) = ((x ^^^ y).toNat : Int) := by
  rw [u8_xor_nat _ _ (byte_lt x) (byte_lt y), UInt8.toNat_xor]
/-- A row of the call's own that has bytes lies in a block. -/
theorem Own.at {w : World} {B : Nat} {e : TypeId} {v : Value} {l : List UInt8} (h : Own w B e v l) (hl : 0 < l.length) : ∃ g c, v = .slice (some ⟨g, 0, none⟩) l.length c ∧ B ≤ g ∧ g < w.heap.size ∧ l.length ≤ c ∧ c ≤ 9223372036854775807 := by
  rcases h.2 with ⟨_, e⟩ | ⟨g, cap, cur, rfl, hb, hg, h1, h2, _⟩
  · omega
  · unfold maxLen at h2
    exact ⟨g, cap, rfl, hb, (Array.getElem?_eq_some_iff.1 hg).1, h1, by omega⟩
theorem Own.set3o {w : World} {p B : Nat} {k n : Int} {A : Option Addr} {m c : Nat} (h : Box w p k n (.slice A m c)) (v0 v1 v2 : Value) {v : Value} {l : List UInt8} (hv : Own w B 5 v l) : Own (((w.setCell ⟨p, 0, none⟩ v0).setCell ⟨p, 1, none⟩ v1).setCell ⟨p, 2, none⟩ v2) B 5 v l := Own.set3 h v0 v1 v2 hv
theorem Box.set3 {w : World} {p q : Nat} {k n k' n' : Int} {vb vb' : Value} (h : Box w p k n vb) (_h' : Box w q k' n' vb') (hne : p ≠ q) (v0 v1 v2 : Value) : Box (((w.setCell ⟨q, 0, none⟩ v0).setCell ⟨q, 1, none⟩ v1).setCell ⟨q, 2, none⟩ v2) p k n vb := by
  unfold Box
  rw [heap_cell_other hne, heap_cell_other hne, heap_cell_other hne]
  exact h
theorem own_frozen {w : World} {B g n c : Nat} {e : TypeId} {l : List UInt8} (h : Own w B e (.slice (some ⟨g, 0, none⟩) n c) l) (hl : l.length = n) (j : Nat) : w.frozen? ⟨g, j, none⟩ = false := by
  unfold Own at h
  rw [hl] at h
  exact World.ownsRow.frozenAt h j
theorem xor0 (x : UInt8) : x ^^^ 0 = x := by simp
theorem xor_ne {x y : UInt8} (h : y ≠ 0) : x ^^^ y ≠ x := fun e => h (xor8_zero x y e)
theorem set_same {l : List UInt8} {i : Nat} : l.set i (l.getD i 0) = l := by
  by_cases h : i < l.length
  · rw [getDb h, List.set_getElem_self]
  · rw [List.set_eq_of_length_le (by omega)]
end Go.Proofs.YtagchbpofoidmaaDoor

/-
  The document's readers (tallymanref01): New, take, Word of four bytes; append of noughts. Conditions: none.
-/
namespace Go.Proofs.YtagchbpofoidmaaDoor
set_option maxRecDepth 100000
open Go.RowKit Go.Maps
set_option linter.unusedSimpArgs false

theorem zcells (m : Nat) : Builtin.zeroCells (Value.int .u8 0).cells m = (byc (zsB m)).toArray := by
  apply Array.ext'
  have e : (Value.int .u8 0).cells = #[.int .u8 0] := rfl
  simp only [Builtin.zeroCells, e, byc, zsB, Array.toList_map, Array.toList_range, List.map_replicate]
  rw [show (#[Value.int .u8 0] : Array Value).size = 1 from rfl, Nat.mul_one]
  refine List.ext_getElem (by simp) (fun i h1 h2 => ?_)
  simp [Nat.mod_one]
theorem append_zeros (w : World) (base : Option Addr) (n c m : Nat) (ty : TypeId) (h : n + m ≤ 10000) (h0 : m ≠ 0) :
    (Builtin.append_ #[22, 3] ty #[.slice base n c, .int .i64 (m : Int)]).run Tryd.prog w = (Builtin.append_ #[22, 9] ty #[.slice base n c, .string ⟨(zsB m).toArray⟩]).run Tryd.prog w := by
  obtain ⟨i0, hi0, hz0, hz1, hz2⟩ := info_parts uinfo
  have hls : (⟨(zsB m).toArray⟩ : ByteArray).size = m := by simp [ByteArray.size, zsB]
  have hw : IntKind.i64.wrap (m : Int) = (m : Int) := by rw [IntKind.wrap_i64]; omega
  have h1 : ¬ ((m : Int) < 0) := by omega
  have h2 : ¬ ((281474976710656 : Int) < (m : Int)) := by omega
  have h3 : ¬ ((9223372036854775807 : Int) < (n : Int) + (m : Int)) := by omega
  have ha : ∀ W, (asInt (.int .i64 (m : Int))).run Tryd.prog W = .ok (m : Int) W := fun _ => rfl
  have hc := zcells m
  have hs1 : List.take m (List.map (fun b : UInt8 => Value.int .u8 (b.toNat : Int)) (zsB m)) = byc (zsB m) := by
    rw [List.take_of_length_le (by simp [zsB])]; rfl
  by_cases hroom : n + m ≤ c
  · simp [Builtin.append_, run_underlying Tryd.underlying22, run_underlying Tryd.underlying3, run_underlying Tryd.underlying9, sizeOf, typeInfo, zeroValue, hi0, hz0, hz1, hz2, Builtin.lenOf, Builtin.firstCells, hls, ha, hw, h1, h2, hs1, hc, hroom, h0]
  · have h4 : ¬ (281474976710656 < Builtin.nextslicecap (n + m) c) := by
      have := growslice_fits (need := n + m) (old := c) (bytes := 1) (by omega) (by omega)
      omega
    simp [Builtin.append_, run_underlying Tryd.underlying22, run_underlying Tryd.underlying3, run_underlying Tryd.underlying9, sizeOf, typeInfo, zeroValue, hi0, hz0, hz1, hz2, Builtin.lenOf, Builtin.firstCells, hls, ha, hw, h1, h2, h3, hs1, hc, hroom, h0, h4]
theorem append_none (w : World) (base : Option Addr) (n c : Nat) (ty : TypeId) (h : n ≤ c) :
    (Builtin.append_ #[22, 3] ty #[.slice base n c, .int .i64 0]).run Tryd.prog w = .ok (.slice base n c) w := by
  obtain ⟨i0, hi0, hz0, hz1, hz2⟩ := info_parts uinfo
  have ha : ∀ W, (asInt (.int .i64 0)).run Tryd.prog W = .ok 0 W := fun _ => rfl
  have hw : IntKind.i64.wrap 0 = 0 := rfl
  cases base <;> simp [Builtin.append_, run_underlying Tryd.underlying22, run_underlying Tryd.underlying3, sizeOf, typeInfo, hi0, hz1, ha, hw, h, storeCells]
section
variable {ops : Array Oper} {rest : List Oper} {o : Oper} {a : Act} {w : World} {Q : Exit → Act → World → Prop}
/-- 'append(b, make([]byte, m)...)' onto a row of the call's own. -/
theorem wpList_appM (hgd : o.guard = none) (s x : Operand) (ho : o.op = .call { callee := .builtin .append, args := #[s, x], argTypes := #[22, 3] })
    (B : Nat) (v : Value) (l : List UInt8) (hs : a.eval s = v) (hown : Own w B 5 v l) (X : Int) (m : Nat) (hx : a.eval x = .int .i64 X) (hX : X = (m : Int)) (hlen : l.length + m ≤ 10000) (hbase : B ≤ w.heap.size)
    (h : ∀ v' w', Own w' B 5 v' (l ++ zsB m) → w.grownBy w' v.ownBlock → wpList Tryd.prog ops Q rest (a.put o.dst v') w') : wpList Tryd.prog ops Q (o :: rest) a w := by
  subst hX
  obtain ⟨i0, hi0, hz0, hz1, hz2⟩ := info_parts uinfo
  refine wpList_plain hgd fun K hK => ?_
  obtain ⟨A, n, c, rfl, N, hnc, hcm⟩ := hown.byt.form
  have hn := N.out
  by_cases h0 : m = 0
  · subst h0
    have hrun := append_none w A n c o.type hnc
    unfold Oper.wp execOp
    simp only [ho, resolve, invoke, builtin, Sem.run_bind, Sem.run_pure, Result.andThen_ok, List.map_toArray, List.map_cons, List.map_nil, hs, hx]
    rw [show (((0 : Nat) : Int)) = 0 from rfl, hrun]
    exact hK _ _ (h _ _ (by simpa [zsB] using hown) ⟨rfl, rfl, rfl, Nat.le_refl _, fun _ _ _ => rfl⟩)
  · have hls : (⟨(zsB m).toArray⟩ : ByteArray).size = m := by simp [ByteArray.size, zsB]
    obtain ⟨v', w', hrun, g1, g2, _⟩ := Lib.run_append_own_string (P := Tryd.prog) w B 22 9 o.type 5 i0 Tryd.underlying22 Tryd.underlying9 hi0 hz0 hz1 hz2 _ _ _ hown ⟨(zsB m).toArray⟩ (by rw [hls]; unfold maxLen; omega) (by rw [hls]; omega) hbase
    rw [← append_zeros w A n c m o.type (by omega) h0] at hrun
    unfold Oper.wp execOp
    simp only [ho, resolve, invoke, builtin, Sem.run_bind, Sem.run_pure, Result.andThen_ok, List.map_toArray, List.map_cons, List.map_nil, hs, hx, hrun]
    refine hK _ _ (h v' w' ?_ g2)
    rw [hls] at g1
    unfold Own
    rw [List.length_append, byc_app, zsB_len]
    have e : Lib.strCells ⟨(zsB m).toArray⟩ = byc (zsB m) := by simp [Lib.strCells, byc]
    rw [e] at g1
    exact g1
end

/-- The document's reader, that stands at these bytes. -/
def RRdr (w : World) (g : Nat) (l : List UInt8) : Prop :=
  ∃ A c, w.heap[g]? = some (.cells #[.slice A l.length c, .int .i64 0] 97) ∧ Byt w (.slice A l.length c) l
theorem RRdr.below {w w' : World} {g : Nat} {l : List UInt8} (h : RRdr w g l) (hb : Below w.heap.size w w') : RRdr w' g l := by
  obtain ⟨A, c, h1, h2⟩ := h
  exact ⟨A, c, (hb.block g (Array.getElem?_eq_some_iff.1 h1).1).trans h1, h2.below hb⟩
theorem r1new_any (w : World) (v : Value) (l : List UInt8) (hv : Byt w v l) (hlen : l.length ≤ 10000) :
    Calls Tryd.prog 55 #[v] w fun e w' => ∃ g, e = .returned (.pointer (some ⟨g, 0, none⟩)) ∧ w.heap.size ≤ g ∧ RRdr w' g l ∧ Below w.heap.size w w' := by
  obtain ⟨i0, hi0, hz0, hz1, hz2⟩ := info_parts uinfo
  have HV := Lib.hid hv
  have HE := Lib.hid (Own.empty w)
  clear hv
  go_enter Tryd.func55, Tryd.ntmps55
  go_wp2_with (at_builtin; refine wpList_app _ rfl (.tmp 3) (.tmp 4) _ rfl w.heap.size 5 i0 _ Tryd.underlying22 hi0 hz0 hz1 hz2 rfl _ [] rfl HE.out _ l rfl (HV.out.alloc _) (by simp; omega) (by simp) ?_; intro v1 w1 hown1 hg1 hat1; have hb1 := below_own (below_new w _) (by simp) HE.out hg1; rw [List.nil_append] at hown1; obtain ⟨A1, n1, c1, rfl, N1, hnc1, hcm1⟩ := hown1.byt.form)
  go_ret
  have hn := N1.out
  subst hn
  exact ⟨w1.heap.size, rfl, hb1.size, ⟨A1, c1, heap_alloc_new w1 _, hown1.byt.alloc _⟩, hb1.alloc hb1.size _⟩
/-- What take of four bytes leaves. -/
def RTook (w : World) (g : Nat) (l : List UInt8) (e : Ending) (w' : World) : Prop :=
  ∃ v, e = .returned (.tuple #[v, .bool true]) ∧ Byt w' v l ∧ w.grownBy w' (some g)
theorem rcells {w : World} {g : Nat} {l : List UInt8} (h : RRdr w g l) : ∃ A c, w.cell? ⟨g, 0, none⟩ = some (.slice A l.length c) ∧ w.cell? ⟨g, 1, none⟩ = some (.int .i64 0) ∧ w.frozen? ⟨g, 0, none⟩ = false ∧ Byt w (.slice A l.length c) l ∧ g < w.heap.size ∧ ¬ (∃ off u, w.cell? ⟨g, off, none⟩ = some (.int .u8 u)) ∧ l.length ≤ c ∧ c ≤ 9223372036854775807 := by
  obtain ⟨A, c, h1, h2⟩ := h
  have h3 := h2
  obtain ⟨A', c', e, h4, h5, _⟩ := h3
  injection e with _ _ e
  subst e
  unfold maxLen at h5
  refine ⟨A, c, by rw [cell_of_row _ _ _ _ _ _ h1]; rfl, by rw [cell_of_row _ _ _ _ _ _ h1]; rfl, by simp [World.frozen?, h1], h2, (Array.getElem?_eq_some_iff.1 h1).1, ?_, h4, by omega⟩
  rintro ⟨off, u, hc⟩
  rw [cell_of_row _ _ _ _ _ _ h1] at hc
  match off, hc with
  | 0, hc => simp at hc
  | 1, hc => simp at hc
  | n + 2, hc => simp at hc
set_option maxHeartbeats 1000000 in
theorem rtake_is (w : World) (g : Nat) (l : List UInt8) (hr : RRdr w g l) (hl : l.length = 4) :
    Calls Tryd.prog 75 #[.pointer (some ⟨g, 0, none⟩), .int .i64 4] w (RTook w g l) := by
  obtain ⟨i0, hi0, hz0, hz1, hz2⟩ := info_parts uinfo
  obtain ⟨A, c, c0, c1, f0, hb, hg, hnb, hlc, hcm⟩ := rcells hr
  rw [hl] at c0 hb hlc
  obtain ⟨A1, n1, c1', r1, b1, N1, _, _⟩ := hb.uptorun 22 elemByte sizeByte 4 (by omega) .i64
  have r1' : ∀ W, (Instr.slice 22 (.slice A 4 c) none (some (.int .i64 4)) none).run Tryd.prog W = .ok (.slice A1 n1 c1') W := r1
  obtain ⟨A2, n2, c2, r2, b2, N2, _, _⟩ := hb.cutrun 22 elemByte sizeByte 4 (by omega) .i64
  have r2' : ∀ W, (Instr.slice 22 (.slice A 4 c) (some (.int .i64 4)) none none).run Tryd.prog W = .ok (.slice A2 n2 c2) W := r2
  have HE := Lib.hid (Own.empty w)
  have B1 : Hid (Byt w (.slice A1 n1 c1') l) := by rw [List.take_of_length_le (by omega)] at b1; exact b1
  have HG := Lib.hid hg
  have HNB := Lib.hid hnb
  have HC : Hid (∀ w1, Below w.heap.size w w1 → w1.cell? ⟨g, 0, none⟩ = some (.slice A 4 c)) := fun w1 h => (h.cell (p := ⟨g, 0, none⟩) hg).trans c0
  have HF : Hid (∀ w1, Below w.heap.size w w1 → w1.frozen? ⟨g, 0, none⟩ = false) := fun w1 h => (h.frozen (p := ⟨g, 0, none⟩) hg).trans f0
  clear hr hb hg hnb r1 r2 b1 b2
  go_enter Tryd.func75, Tryd.ntmps75
  have q0 := HC.out _ (below_new w (.cells #[] 5))
  go_wp2_with (at_builtin; refine wpList_app _ rfl (.tmp 29) (.tmp 35) _ rfl w.heap.size 5 i0 _ Tryd.underlying22 hi0 hz0 hz1 hz2 rfl _ [] rfl HE.out _ l rfl (B1.out.alloc _) (by simp; omega) (by simp) ?_; intro v1 w1 hown1 hg1 hat1; have hb1 := below_own (below_new w _) (by simp) HE.out hg1; rw [List.nil_append] at hown1; have d0 := HC.out w1 hb1; have e0 := HF.out w1 hb1; obtain ⟨A3, n3, c3, rfl, N3, hnc3, hcm3⟩ := hown1.byt.form; clear hg1 hat1)
  go_ret2
  refine ⟨_, rfl, hown1.byt.keep (by rw [setCell_size]; exact Nat.le_refl _) (fun b hb hu => ?_), ?_⟩
  · have hne : b ≠ g := by
      rintro rfl
      obtain ⟨off, u, hc⟩ := hu
      exact HNB.out ⟨off, u, by rw [← hb1.cell (p := ⟨b, off, none⟩) HG.out]; exact hc⟩
    rw [heap_cell_other hne]
  · exact grown_trans (grown_below hb1) (grown_set _ _ _ _)
theorem word_add (m : List UInt8) (k : Nat) (hk : k < m.length) : wordN (m.take (k + 1)) = wordN (m.take k) + m[k].toNat * 256 ^ k := by
  rw [List.take_succ_eq_append_getElem hk, wordN_snoc, List.length_take, Nat.min_eq_left (by omega)]
theorem wrap_add (k a x : Nat) (hk : k < 4) (hx : x < 256) (ha : a < 256 ^ k) : IntKind.u64.wrap ((a : Int) + IntKind.u64.wrap ((x : Int) * 2 ^ (8 * k))) = ((a + x * 256 ^ k : Nat) : Int) := by
  have hk4 : k = 0 ∨ k = 1 ∨ k = 2 ∨ k = 3 := by omega
  rcases hk4 with rfl | rfl | rfl | rfl <;> simp only [IntKind.wrap_u64] <;> simp at ha ⊢ <;> omega
set_option maxRecDepth 100000 in
set_option maxHeartbeats 2000000 in
theorem rrword_is (w : World) (g : Nat) (l : List UInt8) (hr : RRdr w g l) (hl : l.length = 4) :
    Calls Tryd.prog 56 #[.pointer (some ⟨g, 0, none⟩), .int .i64 4] w fun e w' => e = .returned (.int .u64 (wordN l : Int)) ∧ w.grownBy w' (some g) := by
  obtain ⟨A, c, c0, c1, f0, hb, hg, hnb, hlc, hcm⟩ := rcells hr
  have HT := Lib.hid (rtake_is w g l hr hl)
  clear hr hb hg hnb f0 c0
  go_enter Tryd.func56, Tryd.ntmps56
  go_wp2_with fail
  refine HT.out.mono ?_
  rintro e w1 ⟨v1, rfl, hb1, hg1⟩
  have HB := Lib.hid hb1
  have HG := Lib.hid hg1
  obtain ⟨A1, n1, c1', rfl, N1, hnc1, hcm1⟩ := hb1.form
  obtain rfl : n1 = 4 := N1.out.trans hl
  have HL := Lib.hid hl
  clear hb1 hg1 N1 c1
  go_wp2_with fail
  go_loop [7, 8] (fun n i => RWRel l n i) (fun _ i => 4 - (intOf i).toNat)
  case atStart => exact ⟨0, by omega, rfl, rfl⟩
  case round =>
    obtain ⟨k, hk, rfl, rfl⟩ := hrel
    have hl4 := HL.out
    by_cases hlt : k < l.length
    · obtain ⟨b, off, rfl, hb, hc⟩ := HB.out.at hlt
      have hcell := hc k hlt
      have hst := word_add l k hlt
      have hx : l[k].toNat < 256 := l[k].toNat_lt
      have ha := wordN_lt (l.take k)
      rw [List.length_take, Nat.min_eq_left (by omega)] at ha
      clear hc hb
      generalize l[k].toNat = x at *
      have HS := Lib.hid hst
      have HWA := Lib.hid (wrap_add k _ _ (by omega) hx ha)
      clear hst ha
      generalize wordN (l.take k) = a at *
      go_wp2
      rw [HWA.out]
      exact ⟨⟨k + 1, by omega, by go_num, by rw [HS.out]⟩, by simp [intOf]; omega⟩
    · have hfin : l.take k = l := List.take_of_length_le (by omega)
      obtain rfl : k = 4 := by omega
      rw [hfin]
      go_wp2
      go_ret
      exact ⟨rfl, HG.out⟩
end Go.Proofs.YtagchbpofoidmaaDoor

/-
  The document's pages (tallymanref05): sum, Bytes by their contracts. Conditions: none.
-/
namespace Go.Proofs.YtagchbpofoidmaaDoor
set_option maxRecDepth 100000
open Go.RowKit Go.Maps

def fillZ (l : List UInt8) (k : Nat) : List UInt8 := l.take 12 ++ (zsB (k - 12) ++ l.drop k)
theorem fillZ_start (l : List UInt8) : fillZ l 12 = l := by unfold fillZ zsB; simp
theorem fillZ_len {l : List UInt8} {k : Nat} (h1 : 12 ≤ k) (h2 : k ≤ l.length) : (fillZ l k).length = l.length := by
  unfold fillZ
  simp only [List.length_append, List.length_take, List.length_drop, zsB_len]
  omega
theorem fillZ_set {l : List UInt8} {k : Nat} (h1 : 12 ≤ k) (h2 : k < l.length) : (fillZ l k).set k 0 = fillZ l (k + 1) := by
  unfold fillZ
  have e1 : (l.take 12 ++ (zsB (k - 12) ++ l.drop k)) = (l.take 12 ++ zsB (k - 12)) ++ l.drop k := by simp
  have hl : (l.take 12 ++ zsB (k - 12)).length = k := by rw [List.length_append, List.length_take, zsB_len]; omega
  rw [e1, List.set_append_right _ _ (by omega), hl, Nat.sub_self, List.drop_eq_getElem_cons h2, List.set_cons_zero]
  rw [show k + 1 - 12 = (k - 12) + 1 by omega, zs_split, show zsB 1 = [0] from rfl]
  simp
theorem fillZ_end (l : List UInt8) : sumC (fillZ l 16) = sumB l := by
  unfold fillZ sumB
  rw [show 16 - 12 = 4 from rfl, List.append_assoc]
theorem own_base {w : World} {B g n c : Nat} {e : TypeId} {l : List UInt8} (h : Own w B e (.slice (some ⟨g, 0, none⟩) n c) l) : B ≤ g := by
  rcases h.2 with ⟨e, _⟩ | ⟨g', _, _, e, hb, _⟩
  · cases e
  · simp at e
    omega
def FillRel (w : World) (g n c : Nat) (l : List UInt8) (i : Value) (wr : World) : Prop :=
  ∃ k : Nat, 12 ≤ k ∧ k ≤ 16 ∧ i = .int .i64 (k : Int) ∧ Own wr w.heap.size 5 (.slice (some ⟨g, 0, none⟩) n c) (fillZ l k) ∧ Below w.heap.size w wr
set_option maxRecDepth 100000 in
set_option maxHeartbeats 2000000 in
theorem r5sum_any (w : World) (v : Value) (l : List UInt8) (hv : Byt w v l) (hl : 16 ≤ l.length) (hlen : l.length ≤ 10000) :
    Calls Tryd.prog 52 #[v] w (Word32 w (sumB l)) := by
  obtain ⟨i0, hi0, hz0, hz1, hz2⟩ := info_parts uinfo
  have HV := Lib.hid hv
  have HE := Lib.hid (Own.empty w)
  have HL := Lib.hid hl
  have HLN := Lib.hid hlen
  clear hv
  go_enter Tryd.func52, Tryd.ntmps52
  go_wp2_with (at_builtin; refine wpList_app _ rfl (.tmp 5) (.tmp 6) _ rfl w.heap.size 5 i0 _ Tryd.underlying22 hi0 hz0 hz1 hz2 rfl _ [] rfl HE.out _ l rfl (HV.out.alloc _) (by simp; omega) (by simp) ?_; intro v1 w1 hown1 hg1 hat1; have HB1 := Lib.hid (below_own (below_new w _) (by simp) HE.out hg1); rw [List.nil_append] at hown1; rcases hown1.2 with ⟨_, e0⟩ | ⟨g, c, cur, rfl, hgb, _, hnc, hcm, _⟩; (exfalso; omega); have HO1 := Lib.hid hown1; clear hg1 hat1 hown1)
  unfold maxLen at hcm
  have hlI : (16 : Int) ≤ (l.length : Int) := by omega
  generalize hn : l.length = n at *
  have HN := Lib.hid hn
  clear hn
  go_loopw [4] (fun i wr => FillRel w g n c l i wr) (fun i _ => 16 - (intOf i).toNat)
  case atStart => exact ⟨12, by omega, by omega, rfl, by rw [fillZ_start]; exact HO1.out, HB1.out⟩
  case round =>
    obtain ⟨k, hk1, hk2, rfl, hown, hbel⟩ := hrel
    have HO := Lib.hid hown
    have HB := Lib.hid hbel
    have hfl := fillZ_len hk1 (by have := HN.out; omega : k ≤ l.length)
    by_cases hlt : k < 16
    · have hcell := own_cell hown (j := k) (by have := HN.out; omega)
      have hfr : wr.frozen? ⟨g, k, none⟩ = false := by
        have := hown
        unfold Own at this
        rw [hfl, HN.out] at this
        exact World.ownsRow.frozenAt this k
      have HS := Lib.hid (own_set hown (hfl.trans HN.out) k 0)
      have hb0 : w.heap.size ≤ g := own_base hown
      have HB2 := Lib.hid (hbel.setCell (p := ⟨g, k, none⟩) hb0 (.int .u8 0))
      have HST := Lib.hid (fillZ_set hk1 (by have := HN.out; omega : k < l.length))
      have hkn : (k : Int) < (n : Int) := by omega
      have hz : ((0 : UInt8).toNat : Int) = 0 := rfl
      rw [hz] at HS
      clear hown hbel hfl hb0
      generalize ((fillZ l k).getD k 0).toNat = y at *
      go_wp2_with fail
      go_roundw
      case rel => exact ⟨k + 1, by omega, by omega, by go_num, by rw [← HST.out]; exact HS.out, HB2.out⟩
      case measure => simp [intOf]; omega
    · obtain rfl : k = 16 := by omega
      clear hown hbel
      go_wp2_with fail
      have hsum := refsum_any wr _ (fillZ l 16) HO.out.byt (by have := HN.out; omega)
      rw [fillZ_end] at hsum
      refine hsum.mono ?_
      clear hsum
      rintro e w3 ⟨rfl, hb3⟩
      generalize sumB l = sm at *
      go_wp2_with fail
      go_ret
      exact ⟨rfl, HB.out.trans (hb3.mono HB.out.size)⟩
theorem slice1c (g a n c : Nat) (ha : a < n) (hc : n ≤ c) : ∀ W, (Instr.slice 22 (.slice (some ⟨g, 0, none⟩) n c) (some (.int .i64 (a : Int))) none none).run Tryd.prog W = .ok (.slice (some ⟨g, a, none⟩) (n - a) (c - a)) W := by
  intro W
  rw [run_slice_l W 22 _ n c elemByte .i64 (a : Int) (by omega) (by omega), sizeByte]
  simp only [Result.andThen, sliced, Int.toNat_natCast]
  rw [if_neg (by omega)]
  simp [plainAdd]
set_option maxHeartbeats 1000000 in
theorem r5bytes_bad (w : World) (k n : Int) (vb : Value) (l : List UInt8) (hv : Byt w vb l) (h : ¬ ((1 ≤ k ∧ k ≤ 7) ∧ l.length ≤ 4080)) :
    Calls Tryd.prog 16 #[.agg (pageV k n vb)] w (Refused w 2) := by
  obtain ⟨A, m, c, rfl, N, hnc, hcm⟩ := hv.form
  have HB := Lib.hid (below_new w (.cells (pageV k n (.slice A m c)) 28))
  clear hv
  unfold pageV at *
  by_cases h1 : k < 1
  · go_enter Tryd.func16, Tryd.ntmps16
    go_wp2_with fail
    go_ret2
    exact ⟨rfl, HB.out⟩
  · by_cases h7 : 7 < k
    · go_enter Tryd.func16, Tryd.ntmps16
      go_wp2_with fail
      go_ret2
      exact ⟨rfl, HB.out⟩
    · have hm : (4080 : Int) < (m : Int) := by have := N.out; omega
      clear h
      go_enter Tryd.func16, Tryd.ntmps16
      go_wp2_with fail
      go_ret2
      exact ⟨rfl, HB.out⟩
set_option maxRecDepth 100000 in
set_option maxHeartbeats 8000000 in
theorem r5bytes_ok (w : World) (k nn : Nat) (vb : Value) (l : List UInt8) (hv : Byt w vb l) (h1 : 1 ≤ k) (h7 : k ≤ 7) (hl : l.length ≤ 4080) (hnn : nn < 4294967296) :
    Calls Tryd.prog 16 #[.agg (pageV (k : Int) (nn : Int) vb)] w (MadeE w (pageB k nn l)) := by
  obtain ⟨i0, hi0, hz0, hz1, hz2⟩ := info_parts uinfo
  obtain ⟨A, m, c, rfl, N, hnc, hcm⟩ := hv.form
  have HV := Lib.hid hv
  have HL := Lib.hid hl
  have HNN := Lib.hid hnn
  have hm : ¬ (4080 : Int) < (m : Int) := by have := N.out; omega
  have hk1 : ¬ (k : Int) < 1 := by omega
  have hk7 : ¬ (7 : Int) < (k : Int) := by omega
  obtain ⟨w0, hw0⟩ : ∃ w0, w.alloc (.cells (pageV k nn (.slice A m c)) 28) = w0 := ⟨_, rfl⟩
  have HX0 : Hid (Box w0 w.heap.size k nn (.slice A m c)) := hw0 ▸ Box.new w k nn _
  have HB0 : Hid (Below w.heap.size w w0) := hw0 ▸ below_new w _
  have HW0 := Lib.hid hw0
  have hk8 : (k : Int) = ((UInt8.ofNat k).toNat : Int) := byte_nat k (by omega)
  obtain ⟨w1, hw1⟩ : ∃ w1, w0.alloc (.cells #[.int .u8 84, .int .u8 77, .int .u8 1, .int .u8 (k : Int)] 5) = w1 := ⟨_, rfl⟩
  have hsz0 : w0.heap.size = w.heap.size + 1 := by rw [← hw0]; simp
  have HR1 : Hid (Byt w1 (.slice (some ⟨w.heap.size + 1, 0, none⟩) 4 4) [84, 77, 1, UInt8.ofNat k]) := by
    rw [Hid, ← hw1, ← hsz0, hk8]
    exact Byt.lit w0 5 [84, 77, 1, UInt8.ofNat k] (0, 0) (by simp [maxLen])
  have HB1 : Hid (Below w0.heap.size w0 w1) := hw1 ▸ below_new w0 _
  have HW1 := Lib.hid hw1
  have HSZ := Lib.hid hsz0
  unfold pageV at HW0 ⊢
  clear hv hl hw0 hw1 h1 h7 hsz0 hk8
  have c1 := (HX0.out.below HB1.out).cells.2.1
  rw [← HW1.out, ← HW0.out] at c1
  go_enter Tryd.func16, Tryd.ntmps16
  go_wp2_with fail
  rw [HW0.out, HW1.out]
  clear c1
  refine (refword_is w1 _ _ nn 4 HR1.out (by omega) (by omega) (by simp)).mono ?_
  rintro e w2 ⟨v2, rfl, hown2, hb2⟩
  have HB2 := Lib.hid (HB1.out.trans (hb2.mono HB1.out.size))
  have HO2 := Lib.hid (hown2.lower HB1.out.size)
  have HLZ : Hid (l.length ≤ 4080) := HL.out
  have hz8 : (byc (zsB 8)).toArray = #[.int .u8 0, .int .u8 0, .int .u8 0, .int .u8 0, .int .u8 0, .int .u8 0, .int .u8 0, .int .u8 0] := rfl
  have HL8 := Lib.hid (Byt.lit w2 5 (zsB 8) (0, 0) (by simp [maxLen, zsB]))
  rw [hz8] at HL8
  clear hown2 hb2 hz8
  have HN3 : Hid (([84, 77, 1, UInt8.ofNat k] ++ wordB 4 nn ++ zsB 8).length = 16) := by rw [Hid, List.length_append, List.length_append, wordB_len, zsB_len]; rfl
  have HN4 : Hid (([84, 77, 1, UInt8.ofNat k] ++ wordB 4 nn ++ zsB 8 ++ l).length = 16 + l.length) := by rw [Hid, List.length_append, HN3.out]
  have HN2 : Hid (([84, 77, 1, UInt8.ofNat k] ++ wordB 4 nn).length = 8) := by rw [Hid, List.length_append, wordB_len]; rfl
  have HROW : Hid ([84, 77, 1, UInt8.ofNat k] ++ wordB 4 nn ++ zsB 8 ++ l ++ zsB (4080 - l.length) = headB k nn ++ (zsB 4 ++ padB l)) := by
    rw [Hid]
    unfold headB padB
    rw [show (8 : Nat) = 4 + 4 from rfl, zs_split]
    simp only [List.append_assoc]
  go_wp2_with (first
    | (at_builtin; refine wpList_app _ rfl (.tmp 28) (.tmp 29) _ rfl w0.heap.size 5 i0 _ Tryd.underlying22 hi0 hz0 hz1 hz2 rfl _ _ rfl (World.ownsRow.alloc HO2.out _) _ (zsB 8) rfl HL8.out (by rw [HN2.out, zsB_len]; omega) (by have := HB2.out.size; simp; omega) ?_; intro v3 w3 hown3 hg3 hat3; have HB3 := Lib.hid (below_own (HB2.out.alloc HB2.out.size _) (by have := HB2.out.size; simp; omega) (World.ownsRow.alloc HO2.out _) hg3); have HO3 := Lib.hid hown3; have c2 := (HX0.out.below HB3.out).cells.2.2; clear hown3 hg3 hat3)
    | (at_builtin; refine wpList_app _ rfl (.tmp 31) (.tmp 33) _ rfl w0.heap.size 5 i0 _ Tryd.underlying22 hi0 hz0 hz1 hz2 rfl _ _ rfl HO3.out _ l rfl (HV.out.below (HB0.out.trans (HB3.out.mono HB0.out.size))) (by rw [HN3.out]; have := HL.out; omega) HB3.out.size ?_; intro v4 w4 hown4 hg4 hat4; have HB4 := Lib.hid (below_own HB3.out HB3.out.size HO3.out hg4); have HO4 := Lib.hid hown4; obtain ⟨A4, n4, c4, rfl, N4, hnc4, hcm4⟩ := hown4.byt.form; have HN4' := Lib.hid (N4.out.trans HN4.out); have hn4' : (n4 : Int) ≤ 4096 := (by have := HL.out; have := HN4'.out; omega); clear hown4 hg4 hat4 c2 N4)
    | (at_builtin; refine wpList_appM rfl (.tmp 35) (.tmp 38) rfl w0.heap.size _ _ rfl HO4.out _ (4080 - l.length) rfl (by have := HL.out; have := HN4'.out; omega) (by rw [HN4.out]; have := HL.out; omega) HB4.out.size ?_; intro v5 w5 hown5 hg5; have HB5 := Lib.hid (below_own HB4.out HB4.out.size HO4.out hg5); rw [HROW.out] at hown5; have HO5 := Lib.hid hown5; have hl5 := row4_len k nn HL.out; rcases hown5.2 with ⟨_, e0⟩ | ⟨g, c5, cur, rfl, hgb, _, hnc5, hcm5, _⟩; (exfalso; omega); rw [hl5] at HO5 hnc5 ⊢; clear hg5 hown5))
  have HGB : Hid (w0.heap.size ≤ g) := hgb
  have s12 : ∀ W, (Instr.slice 22 (.slice (some ⟨g, 0, none⟩) 4096 c5) (some (.int .i64 12)) none none).run Tryd.prog W = .ok (.slice (some ⟨g, 12, none⟩) 4084 (c5 - 12)) W := slice1c g 12 4096 c5 (by omega) hnc5
  have HOd : Hid (Own w5.drew w0.heap.size 5 (.slice (some ⟨g, 0, none⟩) 4096 c5) (headB k nn ++ (zsB 4 ++ padB l))) := HO5.out
  have HBd : Hid (Below w0.heap.size w0 w5.drew) := HB5.out.drew
  clear hgb hl5 HO5 HB5 HO4 HB4 HO3 HB3 HO2 HB2
  refine wp_region_T (R := fun x y => Below x.heap.size x y) (by kernel_rfl) (fun _ => Below.refl _ _) (fun h k => h.trans (k.mono h.size)) (by kernel_rfl) 6 rfl (by kernel_rfl) (by kernel_rfl) (fun d v c a w h => by cases d <;> exact h)
    [(0, false), (1, false), (2, false), (3, true), (4, false), (5, true)] rfl (by kernel_rfl) ?_
  simp only [sel, List.getElem?_toArray, List.getElem?_cons_succ, List.getElem?_cons_zero]
  generalize w5.drew = wd at *
  iterate 3 (refine schT_take ?_ rfl ?_ ?_; rotate_left; (focus (intro u hu; go_simp <;> rfl)); simp only [Act.put, List.setIfInBounds_toArray, List.set_cons_zero, List.set_cons_succ])
  refine schT_call rfl ?_
  intro K hK
  go_simp
  refine (r5sum_any _ _ _ HOd.out.byt (by rw [row4_len k nn HL.out]; omega) (by rw [row4_len k nn HL.out]; omega)).mono ?_
  rw [row4_sum]; have HSL := Lib.hid (sumC_lt (headB k nn ++ zsB 4 ++ padB l)); generalize hsm : sumC (headB k nn ++ zsB 4 ++ padB l) = sm at *; have HSM := Lib.hid hsm; clear hsm; rintro e w8 ⟨rfl, hb8⟩
  go_wp2_with fail
  refine hK _ _ hb8 ?_
  clear hK K
  have HO8 := Lib.hid (Own.keep HOd.out hb8)
  have HB8 := Lib.hid (HBd.out.trans (hb8.mono HBd.out.size))
  have hsl := HSL.out
  clear hb8
  refine schT_take (.int .u64 (sm : Int)) rfl (fun u _ => conv64 u sm hsl _ _ rfl rfl) ?_
  simp only [Act.put, List.setIfInBounds_toArray, List.set_cons_zero, List.set_cons_succ]
  refine schT_call rfl ?_
  intro K hK
  go_simp
  refine (refword_is _ _ [] sm 4 (Byt.nil _) (by omega) (by omega) (by simp)).mono ?_
  rintro e w9 ⟨v9, rfl, hown9, hb9⟩
  go_wp2_with fail
  refine hK _ _ hb9 ?_
  clear hK K
  have HO9 := Lib.hid (Own.keep HO8.out hb9)
  have HB9 := Lib.hid (HB8.out.trans (hb9.mono HB8.out.size))
  have HR9 := Lib.hid hown9
  obtain ⟨A9, n9, c9, rfl, N9, hnc9, hcm9⟩ := hown9.byt.form
  clear hown9 hb9
  refine schT_nil ?_
  refine schT_last rfl rfl ?_
  refine wp_copyO 46 (.tmp 41) (.tmp 45) rfl rfl g 12 4096 c5 4084 (c5 - 12) _ (wordB 4 sm) _ rfl rfl (HO9.out.lower (Nat.zero_le _)) HR9.out.byt (by rw [wordB_len]; omega) (by omega) ?_
  intro w10 hown10 ht10 hs10
  rw [← HSM.out, ← row4_sum, row5] at hown10
  have HO10 := Lib.hid hown10
  have HB10 := Lib.hid (HB9.out.trans (ht10.below HB9.out.size (fun _ e => e ▸ HGB.out)))
  clear hown10 ht10 hs10
  go_wp2_with fail
  go_ret2
  exact ⟨_, rfl, HO10.out.lift (Nat.le_trans HB0.out.size HGB.out), HB0.out.trans (HB10.out.mono HB0.out.size)⟩
end Go.Proofs.YtagchbpofoidmaaDoor

/-
  Package page over sectors: Pages, missing, through by their contracts. Conditions: none but that the disk lies there.
-/
namespace Go.Proofs.YtagchbpofoidmaaDoor
set_option maxRecDepth 100000
open Go.RowKit Go.Maps

theorem pages_is (w : World) (S : Nat → Prop) (g : Nat) (s : St) (h : Dsk w S g s) :
    Calls Tryd.prog 15 #[.pointer (some ⟨g, 0, none⟩)] w fun e w' => e = .returned (.int .i64 ((secs s / 8 : Nat) : Int)) ∧ w = w' := by
  have H := Lib.hid (sectors_any w S g s h)
  have hfew : secs s ≤ 32768 := by obtain ⟨_, _, _, _, _, _, _, _, ok⟩ := h; exact ok.few
  clear h
  generalize secs s = k at *
  have hw : IntKind.i64.wrap ((k : Int) / 8) = ((k / 8 : Nat) : Int) := by rw [IntKind.wrap_i64]; omega
  go_enter Tryd.func15, Tryd.ntmps15
  go_wp2_with fail
  refine H.out.mono ?_
  rintro e w1 ⟨rfl, rfl⟩
  go_wp2_with fail
  go_ret
  exact ⟨ret_int (by first | omega | rw [hw]), rfl⟩
theorem pages_nil (w : World) :
    Calls Tryd.prog 15 #[.pointer none] w fun e w' => e = .returned (.int .i64 0) ∧ w = w' := by
  go_enter Tryd.func15, Tryd.ntmps15
  go_wp2_with fail
  refine (sectors_nil _).mono ?_
  rintro e w1 ⟨rfl, rfl⟩
  go_wp2_with fail
  go_ret
  exact ⟨rfl, rfl⟩
theorem missing_nil (w : World) (x : Int) :
    Calls Tryd.prog 43 #[.pointer none, .int .i64 x] w fun e w' => e = .returned (.int .i64 1) ∧ w = w' := by
  go_enter Tryd.func43, Tryd.ntmps43
  go_wp2_with fail
  refine (sectors_nil _).mono ?_
  rintro e w1 ⟨rfl, rfl⟩
  go_wp2_with fail
  go_ret
  exact ⟨rfl, rfl⟩
theorem missing_is (w : World) (S : Nat → Prop) (g : Nat) (s : St) (x : Int) (h : Dsk w S g s) :
    Calls Tryd.prog 43 #[.pointer (some ⟨g, 0, none⟩), .int .i64 x] w fun e w' => e = .returned (.int .i64 (if 0 ≤ x ∧ x < ((secs s / 8 : Nat) : Int) then 0 else 2)) ∧ w = w' := by
  have H := Lib.hid (sectors_any w S g s h)
  have HP := Lib.hid (pages_is w S g s h)
  have hpos : 0 < secs s := by obtain ⟨_, _, _, _, _, _, _, _, ok⟩ := h; exact ok.some_
  clear h
  have hne : (((secs s : Nat) : Int) == 0) = false := by simp; omega
  clear hpos
  generalize secs s / 8 = k at *
  generalize secs s = k0 at *
  by_cases h0 : 0 ≤ x
  · by_cases h1 : x < (k : Int)
    · rw [if_pos ⟨h0, h1⟩]
      go_enter Tryd.func43, Tryd.ntmps43
      go_wp2_with fail
      refine H.out.mono ?_
      rintro e w1 ⟨rfl, rfl⟩
      go_wp2_with fail
      refine HP.out.mono ?_
      rintro e w1 ⟨rfl, rfl⟩
      go_wp2_with fail
      go_ret
      exact ⟨rfl, rfl⟩
    · rw [if_neg (fun h => h1 h.2)]
      go_enter Tryd.func43, Tryd.ntmps43
      go_wp2_with fail
      refine H.out.mono ?_
      rintro e w1 ⟨rfl, rfl⟩
      go_wp2_with fail
      refine HP.out.mono ?_
      rintro e w1 ⟨rfl, rfl⟩
      go_wp2_with fail
      go_ret
      exact ⟨rfl, rfl⟩
  · rw [if_neg (fun h => h0 h.1)]
    go_enter Tryd.func43, Tryd.ntmps43
    go_wp2_with fail
    refine H.out.mono ?_
    rintro e w1 ⟨rfl, rfl⟩
    go_wp2_with fail
    go_ret
    exact ⟨rfl, rfl⟩
/-- Block k holds this number. -/
def Num1 (w : World) (k : Nat) (x : Int) : Prop := w.heap[k]? = some (.cells #[.int .i64 x] 23 (0, 0))
theorem Num1.cell {w : World} {k : Nat} {x : Int} (h : Num1 w k x) : w.cell? ⟨k, 0, none⟩ = some (.int .i64 x) := by rw [cell_of_row _ _ _ _ _ _ h]; rfl
theorem Num1.frozen {w : World} {k : Nat} {x : Int} (h : Num1 w k x) : w.frozen? ⟨k, 0, none⟩ = false := by unfold Num1 at h; simp [World.frozen?, h]
theorem Num1.set {w : World} {k : Nat} {x : Int} (h : Num1 w k x) (y : Int) : Num1 (w.setCell ⟨k, 0, none⟩ (.int .i64 y)) k y := by
  unfold Num1 at h ⊢
  simp [World.setCell, Array.getElem?_modify, h]
theorem Num1.oth {w : World} {k j i : Nat} {x : Int} {v : Value} (h : Num1 w k x) (hne : k ≠ j) : Num1 (w.setCell ⟨j, i, none⟩ v) k x := (heap_cell_other hne).trans h
theorem through1_d (w : World) (p q : Nat) (x y : Int) (u : FrameMode) (hp : Num1 w p x) (hq : Num1 w q y) :
    CallsD Tryd.prog 70 #[.pointer (some ⟨p, 0, none⟩), .pointer (some ⟨q, 0, none⟩)] u w fun e u' w' => u' = u ∧ (e = .returned (.tuple #[]) ∧ w' = w.setCell ⟨q, 0, none⟩ (.int .i64 x)) := by
  have c1 := hp.cell
  have c2 := hq.cell
  have f2 := hq.frozen
  clear hp hq
  go_enter_d Tryd.func70, Tryd.ntmps70
  go_wp2
  go_end0
  exact ⟨rfl, rfl⟩
def ThRel (I : Nat → World → Prop) (p : Nat) (i : Value) (wr : World) : Prop := ∃ k : Nat, k ≤ 8 ∧ i = .int .i64 (k : Int) ∧ I k wr ∧ Num1 wr p 0 ∧ Num1 wr (p + 1) 0
def ThPost (I : Nat → World → Prop) (J : Nat → World → Prop) (e : Ending) (w' : World) : Prop := (e = .returned (.int .i64 0) ∧ I 8 w') ∨ ∃ er : Nat, er ≠ 0 ∧ e = .returned (.int .i64 (er : Int)) ∧ J er w'
set_option maxRecDepth 100000 in
set_option maxHeartbeats 4000000 in
/-- A page's sectors, one by one, whatever is done with each: 'I k': k of them are done; 'J e': one failed so. -/
theorem through_any (w : World) (n q : Nat) (caps : Array Value) (I J : Nat → World → Prop) (hn : n ≤ 4096) (hq : ∀ args W, (callFunc q args).run Tryd.prog W = .ok (.enter q args) W)
    (h0 : ∀ W, Below w.heap.size w W → W.heap.size = w.heap.size + 2 → I 0 W)
    (hs : ∀ (i : Nat) (W : World), i < 8 → I i W → Num1 W w.heap.size 0 → Num1 W (w.heap.size + 1) 0 → Calls Tryd.prog q (#[.int .i64 ((8 * n + i : Nat) : Int), .int .i64 ((512 * i : Nat) : Int)] ++ caps) W fun e w' => ∃ er : Nat, e = .returned (.int .i64 (er : Int)) ∧ er ≤ 100 ∧ Num1 w' w.heap.size 0 ∧ Num1 w' (w.heap.size + 1) 0 ∧ (er = 0 → I (i + 1) w') ∧ (er ≠ 0 → J er w'))
    (hI : ∀ i W j v, I i W → (j = w.heap.size ∨ j = w.heap.size + 1) → I i (W.setCell ⟨j, 0, none⟩ v)) (hJ : ∀ i W j v, J i W → (j = w.heap.size ∨ j = w.heap.size + 1) → J i (W.setCell ⟨j, 0, none⟩ v)) :
    Calls Tryd.prog 44 #[.int .i64 (n : Int), .func (.func q) #[] caps] w (ThPost I J) := by
  have hmf : ∀ (fn : Fn) (first cap : Array Value) (w : World), (Instr.makeFunc fn first cap).run Tryd.prog w = .ok (.func fn first cap) w := fun _ _ _ _ => rfl
  have HQ := Lib.hid hq
  have HS := Lib.hid hs
  have HI := Lib.hid hI
  have HJ := Lib.hid hJ
  obtain ⟨w0, hw0⟩ : ∃ w0, (w.alloc (.cells #[.int .i64 0] 23)).alloc (.cells #[.int .i64 0] 23) = w0 := ⟨_, rfl⟩
  have hb0 : Below w.heap.size w w0 := hw0 ▸ (below_new w _).alloc (by simp) _
  have H0 : Hid (I 0 w0) := h0 w0 hb0 (by rw [← hw0]; simp)
  have HN1 : Hid (Num1 w0 w.heap.size 0) := by
    rw [Hid, ← hw0]
    exact (heap_alloc_old _ _ (by simp)).trans (heap_alloc_new w _)
  have HN2 : Hid (Num1 w0 (w.heap.size + 1) 0) := by
    rw [Hid, ← hw0]
    have := heap_alloc_new (w.alloc (.cells #[.int .i64 0] 23)) (.cells #[.int .i64 0] 23)
    rw [World.size_alloc] at this
    exact this
  have HW0 := Lib.hid hw0
  clear hq hs hI hJ h0 hw0 hb0
  go_enter_defers Tryd.func44, Tryd.ntmps44
  go_wp2_with fail
  rw [HW0.out]
  go_loopw [8] (fun i wr => ThRel I w.heap.size i wr) (fun i _ => 8 - (intOf i).toNat)
  case atStart => exact ⟨0, by omega, rfl, H0.out, HN1.out, HN2.out⟩
  case round =>
    obtain ⟨k, hk, rfl, hi, hn1, hn2⟩ := hrel
    have HII := Lib.hid hi
    have HM1 := Lib.hid hn1
    have HM2 := Lib.hid hn2
    clear hi hn1 hn2
    by_cases hlt : k < 8
    · have CS := Lib.hid (HS.out k wr hlt HII.out HM1.out HM2.out)
      have e1 : ((8 * n + k : Nat) : Int) = (n : Int) * 8 + (k : Int) := by omega
      have e2 : ((512 * k : Nat) : Int) = (k : Int) * 512 := by omega
      rw [e1, e2] at CS
      clear e1 e2
      go_wp2_with fail
      rw [HQ.out, Oper.upon_enter]
      refine CS.out.mono ?_
      rintro e w2 ⟨er, rfl, her, hm1, hm2, hz, hnz⟩
      have c1 := hm2.cell
      have f1 := hm2.frozen
      have HA1 := Lib.hid hm1
      have HA2 := Lib.hid hm2
      by_cases h0 : er = 0
      · subst h0
        have HZ := Lib.hid (hz rfl)
        have HF2 := Lib.hid (hm2.set 0)
        have HF1 := Lib.hid (hm1.oth (j := w.heap.size + 1) (i := 0) (v := .int .i64 0) (by omega))
        have HNI := Lib.hid (HI.out (k + 1) w2 (w.heap.size + 1) (.int .i64 0) HZ.out (.inr rfl))
        have d1 := HF2.out.cell
        clear hz hnz hm1 hm2
        go_wp2_with fail
        go_roundw
        case rel => exact ⟨k + 1, by omega, by go_num, HNI.out, HF1.out, HF2.out⟩
        case measure => simp [intOf]; omega
      · have HZ := Lib.hid (hnz h0)
        have hne : ((er : Int) != 0) = true := by simp only [bne, beq_eq_false_iff_ne, Bool.not_eq_true', ne_eq]; omega
        have HF2 := Lib.hid (hm2.set er)
        have HF1 := Lib.hid (hm1.oth (j := w.heap.size + 1) (i := 0) (v := .int .i64 er) (by omega))
        have HNJ := Lib.hid (HJ.out er w2 (w.heap.size + 1) (.int .i64 er) HZ.out (.inr rfl))
        have d1 := HF2.out.cell
        have H0N := Lib.hid h0
        clear hz hnz hm1 hm2 h0
        go_wp2_with fail
        refine leaves_cons (f := 70) (args := #[.pointer (some ⟨w.heap.size + 1, 0, none⟩), .pointer (some ⟨w.heap.size, 0, none⟩)]) (by simp) (by simp [go_sem]) ?_
        refine (through1_d _ (w.heap.size + 1) w.heap.size er 0 .returning HF2.out HF1.out).mono ?_
        rintro e u' w'' ⟨rfl, rfl, rfl⟩
        have HE := Lib.hid (HF1.out.set er)
        have HJ2 := Lib.hid (HJ.out er _ w.heap.size (.int .i64 er) HNJ.out (.inl rfl))
        generalize ((w2.setCell ⟨w.heap.size + 1, 0, none⟩ (.int .i64 er)).setCell ⟨w.heap.size, 0, none⟩ (.int .i64 er)) = w9 at *
        have d9 := HE.out.cell
        simp [Leaves, settle, results, Tryd.results44, go_sem, d9]
        exact .inr ⟨er, H0N.out, rfl, HJ2.out⟩
    · obtain rfl : k = 8 := by omega
      go_wp2_with fail
      refine leaves_cons (f := 70) (args := #[.pointer (some ⟨w.heap.size + 1, 0, none⟩), .pointer (some ⟨w.heap.size, 0, none⟩)]) (by simp) (by simp [go_sem]) ?_
      refine (through1_d _ (w.heap.size + 1) w.heap.size 0 0 .returning HM2.out HM1.out).mono ?_
      rintro e u' w'' ⟨rfl, rfl, rfl⟩
      have HE := Lib.hid (HM1.out.set 0)
      have HI2 := Lib.hid (HI.out 8 _ w.heap.size (.int .i64 0) HII.out (.inl rfl))
      generalize wr.setCell ⟨w.heap.size, 0, none⟩ (.int .i64 0) = w9 at *
      have d9 := HE.out.cell
      simp [Leaves, settle, results, Tryd.results44, go_sem, d9]
      exact .inl ⟨rfl, HI2.out⟩
end Go.Proofs.YtagchbpofoidmaaDoor

/-
  Package page over sectors: Load by its contract. Conditions: none but that the disk lies there.
-/
namespace Go.Proofs.YtagchbpofoidmaaDoor
set_option maxRecDepth 100000
open Go.RowKit Go.Maps

/-- A page's sectors read, k of them left, what came so far. -/
def loadI (n : Nat) : Nat → St → List UInt8 → List UInt8 × Nat × St
  | 0, s, acc => (acc, 0, s)
  | k + 1, s, acc => if (readR s ((8 * n + (7 - k) : Nat) : Int)).2.1 = 0 then loadI n k (readR s ((8 * n + (7 - k) : Nat) : Int)).2.2 (acc ++ (readR s ((8 * n + (7 - k) : Nat) : Int)).1) else ([], (readR s ((8 * n + (7 - k) : Nat) : Int)).2.1, (readR s ((8 * n + (7 - k) : Nat) : Int)).2.2)
def loadP (s : St) (x : Int) : List UInt8 × Nat × St := if 0 ≤ x ∧ x < ((secs s / 8 : Nat) : Int) then loadI x.toNat 8 s [] else ([], 2, s)
theorem loadI_next {n i : Nat} (hi : i < 8) (s : St) (acc : List UInt8) : loadI n (8 - i) s acc = if (readR s ((8 * n + i : Nat) : Int)).2.1 = 0 then loadI n (8 - (i + 1)) (readR s ((8 * n + i : Nat) : Int)).2.2 (acc ++ (readR s ((8 * n + i : Nat) : Int)).1) else ([], (readR s ((8 * n + i : Nat) : Int)).2.1, (readR s ((8 * n + i : Nat) : Int)).2.2) := by
  rw [show 8 - i = (7 - i) + 1 by omega, loadI, show 7 - (7 - i) = i by omega, show 8 - (i + 1) = 7 - i by omega]
theorem readR_in {s : St} {a : Nat} (ok : OkSt s) (h : a < secs s) : ((readR s (a : Int)).2.1 = 0 → (readR s (a : Int)).1.length = 512) ∧ ((readR s (a : Int)).2.1 ≠ 0 → (readR s (a : Int)).1 = []) ∧ (readR s (a : Int)).2.1 ≤ 8 ∧ secs (readR s (a : Int)).2.2 = secs s ∧ OkSt (readR s (a : Int)).2.2 := by
  unfold readR
  rw [if_pos ⟨by omega, by omega⟩]
  cases hb : blows s.F
  · simp only [Bool.false_eq_true, if_false, Int.toNat_natCast]
    exact ⟨fun _ => readB_len ok h, fun e => by simp at e, by omega, rfl, ok.tick⟩
  · simp only [if_true]
    exact ⟨fun e => absurd e (by omega), fun _ => by first | rfl | trivial, by omega, rfl, ok.tick⟩
/-- Block k holds this value alone. -/
def One (w : World) (k : Nat) (v : Value) (t : TypeId) : Prop := w.heap[k]? = some (.cells #[v] t (0, 0))
theorem One.cell {w : World} {k : Nat} {v : Value} {t : TypeId} (h : One w k v t) : w.cell? ⟨k, 0, none⟩ = some v := by rw [cell_of_row _ _ _ _ _ _ h]; rfl
theorem One.lt {w : World} {k : Nat} {v : Value} {t : TypeId} (h : One w k v t) : k < w.heap.size := (Array.getElem?_eq_some_iff.1 h).1
theorem One.trn {w w' : World} {T : Nat → Prop} {k : Nat} {v : Value} {t : TypeId} (h : One w k v t) (ht : Trn T w w') (hk : ¬ T k) : One w' k v t := (ht.block k h.lt hk).trans h
theorem trn_set (w : World) (j : Nat) (v : Value) : Trn (fun k => k = j) w (w.setCell ⟨j, 0, none⟩ v) := (Trn.refl _ _).setCell _ (fun _ => rfl)
theorem own_trn {w w' : World} {T : Nat → Prop} {B : Nat} {e : TypeId} {v : Value} {l : List UInt8} (h : Own w B e v l) (ht : Trn T w w') (hk : ∀ k, v.ownBlock = some k → ¬ T k) : Own w' B e v l :=
  ownsRow_sameB h (fun k e' => by
    obtain ⟨c2, h2⟩ := ownsRow_block (h.lower (Nat.zero_le _)) e'
    exact ht.block k (Array.getElem?_eq_some_iff.1 h2).1 (hk k e'))
theorem own_len {w : World} {B : Nat} {e : TypeId} {A : Option Addr} {n c : Nat} {l : List UInt8} (h : Own w B e (.slice A n c) l) : l.length = n := by
  rcases h.2 with ⟨e, e0⟩ | ⟨g', cap, cur, e, _⟩
  · injection e with _ e _; omega
  · injection e with _ e _; exact e.symm
theorem Dsk.okS {w : World} {S : Nat → Prop} {g : Nat} {s : St} (h : Dsk w S g s) : OkSt s := by
  obtain ⟨_, _, _, _, _, _, _, _, ok⟩ := h
  exact ok
theorem splice_next {B row : List UInt8} {i : Nat} (hB : B.length = 4096) (hr : row.length = 512) (hi : i < 8) : (splice B (512 * i) row).take (512 * (i + 1)) = B.take (512 * i) ++ row := by
  unfold splice
  rw [← List.append_assoc (B.take (512 * i))]
  have : (B.take (512 * i) ++ row).length = 512 * (i + 1) := by rw [List.length_append, List.length_take, hr]; omega
  exact List.take_left' this
set_option maxRecDepth 100000 in
set_option maxHeartbeats 2000000 in
/-- The closure that Load hands to through. -/
theorem load1_is (w : World) (S : Nat → Prop) (d db bb rb a pt : Nat) (s : St) (B : List UInt8) (h : Dsk w S d s) (hd : One w db (.pointer (some ⟨d, 0, none⟩)) 32) (hb : One w bb (.slice (some ⟨rb, 0, none⟩) 4096 4096) 22)
    (ho : Own w 0 5 (.slice (some ⟨rb, 0, none⟩) 4096 4096) B) (hrb : ¬ S rb) (hbb : ¬ S bb) (ha : a < secs s) (hpt : pt + 512 ≤ 4096) :
    Calls Tryd.prog 45 #[.int .i64 (a : Int), .int .i64 (pt : Int), .pointer (some ⟨db, 0, none⟩), .pointer (some ⟨bb, 0, none⟩)] w
      fun e w' => e = .returned (.int .i64 (((readR s (a : Int)).2.1 : Nat) : Int)) ∧ Dsk w' S d (readR s (a : Int)).2.2 ∧ Own w' 0 5 (.slice (some ⟨rb, 0, none⟩) 4096 4096) (splice B pt (readR s (a : Int)).1) ∧ Trn (fun k => S k ∨ k = rb) w w' := by
  have c1 := hd.cell
  have HB := Lib.hid hb
  have HO := Lib.hid ho
  have HR := Lib.hid (read_is w S d s (a : Int) h)
  have HNR := Lib.hid hrb
  have HNB := Lib.hid hbb
  have HRL := Lib.hid (readR_in h.okS ha)
  have HDL := Lib.hid h.lt
  have sl : ∀ W, (Instr.slice 22 (.slice (some ⟨rb, 0, none⟩) 4096 4096) (some (.int .i64 (pt : Int))) none none).run Tryd.prog W = .ok (.slice (some ⟨rb, pt, none⟩) (4096 - pt) (4096 - pt)) W := pgslice1 rb pt (by omega)
  clear h hd hb ho hrb hbb
  generalize readR s (a : Int) = r at *
  go_enter Tryd.func45, Tryd.ntmps45
  go_wp2_with fail
  refine HR.out.mono ?_
  rintro e w1 ⟨v1, rfl, hown1, hdk1, ht1⟩
  obtain ⟨A1, n1, k1, rfl, N1, hnc1, hcm1⟩ := hown1.byt.form
  have ho1 := own_trn HO.out ht1 (fun k e => by simp [Value.ownBlock] at e; exact e ▸ HNR.out)
  have hle : r.1.length ≤ 4096 - pt := by
    by_cases e0 : r.2.1 = 0
    · rw [HRL.out.1 e0]; omega
    · rw [HRL.out.2.1 e0]; simp
  obtain ⟨w2, hrun, hown2, ht2, hs2⟩ := run_copyB (w := w1) 3 rb pt 4096 4096 (4096 - pt) (4096 - pt) B r.1 (.slice A1 n1 k1) ho1 hown1.byt hle (by omega)
  have cb := (HB.out.trn ht1 HNB.out).cell
  have HD2 := Lib.hid (hdk1.trn ht2 (fun k hk e => HNR.out (e ▸ hk)))
  have HO2 := Lib.hid hown2
  have HT2 := Lib.hid ((ht1.wide (fun _ h => .inl h) : Trn (fun k => S k ∨ k = rb) w w1).trans ht2 (fun i _ e => .inr e))
  clear hown1 hdk1 ht1 ho1 hown2 ht2 hs2 hle
  go_wp2_with fail
  go_ret
  exact ⟨rfl, HD2.out, HO2.out, HT2.out⟩
theorem enterL1 : ∀ args W, (callFunc 45 args).run Tryd.prog W = .ok (.enter 45 args) W := fun _ _ => rfl
/-- Load under way: i sectors are there. -/
structure LoadSt (w0 : World) (S : Nat → Prop) (d db bb rb n : Nat) (s : St) (i : Nat) (W : World) (s' : St) (B : List UInt8) : Prop where
  dsk : Dsk W S d s'
  own : Own W 0 5 (.slice (some ⟨rb, 0, none⟩) 4096 4096) B
  cd : One W db (.pointer (some ⟨d, 0, none⟩)) 32
  cb : One W bb (.slice (some ⟨rb, 0, none⟩) 4096 4096) 22
  sec : secs s' = secs s
  rest : loadI n 8 s [] = loadI n (8 - i) s' (B.take (512 * i))
  trn : Trn S w0 W
def LoadJ (w0 : World) (S : Nat → Prop) (d n : Nat) (s : St) (er : Nat) (W : World) : Prop := ∃ s', loadI n 8 s [] = ([], er, s') ∧ Dsk W S d s' ∧ Trn S w0 W
theorem LoadSt.set {w0 W : World} {S : Nat → Prop} {d db bb rb n i j : Nat} {s s' : St} {B : List UInt8} {v : Value} (h : LoadSt w0 S d db bb rb n s i W s' B) (hj : w0.heap.size ≤ j) (hS : ¬ S j) (h1 : j ≠ db) (h2 : j ≠ bb) (h3 : j ≠ rb) :
    LoadSt w0 S d db bb rb n s i (W.setCell ⟨j, 0, none⟩ v) s' B :=
  ⟨h.dsk.trn (trn_set W j v) (fun k hk e => hS (e ▸ hk)), own_trn h.own (trn_set W j v) (fun k e => by simp [Value.ownBlock] at e; omega), h.cd.trn (trn_set W j v) (Ne.symm h1), h.cb.trn (trn_set W j v) (Ne.symm h2), h.sec, h.rest, h.trn.setCell _ (fun hlt => by omega)⟩
theorem load_through (w0 w : World) (S : Nat → Prop) (d db bb rb n : Nat) (s : St) (hn : n < secs s / 8) (hs8 : secs s ≤ 32768) (h : LoadSt w0 S d db bb rb n s 0 w s (zsB 4096)) (hw : w0.heap.size ≤ w.heap.size) (hS : ∀ k, S k → k < w0.heap.size) (hdb : w0.heap.size ≤ db ∧ db < w.heap.size) (hbb : w0.heap.size ≤ bb ∧ bb < w.heap.size) (hrb : w0.heap.size ≤ rb ∧ rb < w.heap.size) :
    Calls Tryd.prog 44 #[.int .i64 (n : Int), .func (.func 45) #[] #[.pointer (some ⟨db, 0, none⟩), .pointer (some ⟨bb, 0, none⟩)]] w (ThPost (fun i W => ∃ s' B, LoadSt w0 S d db bb rb n s i W s' B) (LoadJ w0 S d n s)) := by
  refine through_any w n _ _ _ _ (by omega) enterL1 ?_ ?_ ?_ ?_
  · intro W hb _
    have ht : Trn (fun _ => False) w W := Trn.of_below hb
    exact ⟨s, zsB 4096, h.dsk.below hb, own_trn h.own ht (fun _ _ f => f), h.cd.trn ht (fun f => f), h.cb.trn ht (fun f => f), h.sec, h.rest, h.trn.trans ht (fun _ _ f => f.elim)⟩
  · rintro i W hi ⟨s', B, hst⟩ hm1 hm2
    have hok := hst.dsk.okS
    have ha : 8 * n + i < secs s' := by rw [hst.sec]; omega
    have hBl := own_len hst.own
    have hri := readR_in hok ha
    have hnx := loadI_next (n := n) hi s' (B.take (512 * i))
    refine (load1_is W S d db bb rb (8 * n + i) (512 * i) s' B hst.dsk hst.cd hst.cb hst.own (fun h => by have := hS _ h; omega) (fun h => by have := hS _ h; omega) ha (by omega)).mono ?_
    rintro e w' ⟨rfl, hdk, hown, ht⟩
    have nk : ∀ k, w0.heap.size ≤ k → k ≠ rb → ¬ (S k ∨ k = rb) := fun k hk hne h => h.elim (fun h => by have := hS _ h; omega) hne
    have htr : Trn S w0 w' := hst.trn.trans ht (fun k hk h => h.elim id (fun e => by omega))
    refine ⟨_, rfl, by have := hri.2.2.1; omega, (ht.block _ (Array.getElem?_eq_some_iff.1 hm1).1 (nk _ hw (by omega))).trans hm1, (ht.block _ (Array.getElem?_eq_some_iff.1 hm2).1 (nk _ (by omega) (by omega))).trans hm2, fun e0 => ?_, fun e0 => ?_⟩
    · refine ⟨_, _, hdk, hown, hst.cd.trn ht (nk _ hdb.1 ?_), hst.cb.trn ht (nk _ hbb.1 ?_), hri.2.2.2.1.trans hst.sec, ?_, htr⟩
      · intro e
        have h1 := hst.cd
        obtain ⟨c2, h2⟩ := ownsRow_block hst.own (k := rb) rfl
        exact tag_ne h1 h2 (by decide) e
      · intro e
        have h1 := hst.cb
        obtain ⟨c2, h2⟩ := ownsRow_block hst.own (k := rb) rfl
        exact tag_ne h1 h2 (by decide) e
      · rw [hst.rest, hnx, if_pos e0, splice_next hBl (hri.1 e0) hi]
    · refine ⟨_, ?_, hdk, htr⟩
      rw [hst.rest, hnx, if_neg e0]
  · rintro i W j v ⟨s', B, hst⟩ hj
    refine ⟨s', B, hst.set (by omega) (fun h => by have := hS _ h; omega) (by omega) (by omega) (by omega)⟩
  · rintro i W j v ⟨s', h1, h2, h3⟩ hj
    exact ⟨s', h1, h2.trn (trn_set W j v) (fun k hk e => by have := hS _ hk; omega), h3.setCell _ (fun hlt => by omega)⟩
theorem own_up {w : World} {B g n c : Nat} {e : TypeId} {l : List UInt8} (h : Own w 0 e (.slice (some ⟨g, 0, none⟩) n c) l) (hg : B ≤ g) : Own w B e (.slice (some ⟨g, 0, none⟩) n c) l := by
  refine ⟨h.1, ?_⟩
  rcases h.2 with ⟨e, _⟩ | ⟨g', cap, cur, e, hb, hr⟩
  · cases e
  · simp at e
    obtain ⟨rfl, _⟩ := e
    exact .inr ⟨_, cap, cur, by simp [*], hg, hr⟩
theorem of_box {w : World} {v : Value} {t : TypeId} : One (w.alloc (.cells #[v] t)) w.heap.size v t := heap_alloc_new w _
set_option maxRecDepth 100000 in
set_option maxHeartbeats 2000000 in
theorem load_is (w : World) (S : Nat → Prop) (d : Nat) (s : St) (x : Int) (h : Dsk w S d s) :
    Calls Tryd.prog 11 #[.pointer (some ⟨d, 0, none⟩), .int .i64 x] w (Red w S d (loadP s x)) := by
  have hmf : ∀ (fn : Fn) (first cap : Array Value) (w : World), (Instr.makeFunc fn first cap).run Tryd.prog w = .ok (.func fn first cap) w := fun _ _ _ _ => rfl
  obtain ⟨i0, hi0, hz0, hz1, hz2⟩ := info_parts uinfo
  have H := Lib.hid h
  obtain ⟨w1, hw1⟩ : ∃ w1, w.alloc (.cells #[.pointer (some ⟨d, 0, none⟩)] 32) = w1 := ⟨_, rfl⟩
  have hb1 : Below w.heap.size w w1 := hw1 ▸ below_new w _
  have hs1 : w1.heap.size = w.heap.size + 1 := by rw [← hw1]; simp
  have o1 : One w1 w.heap.size (.pointer (some ⟨d, 0, none⟩)) 32 := hw1 ▸ of_box
  have c1 := o1.cell
  have HM := Lib.hid (missing_is w1 S d s x (h.below hb1))
  have HW1 := Lib.hid hw1
  have HB1 := Lib.hid hb1
  have HS1 := Lib.hid hs1
  have HO1 := Lib.hid o1
  clear h hb1 hs1 o1 hw1
  by_cases hx : 0 ≤ x ∧ x < ((secs s / 8 : Nat) : Int)
  · rw [if_pos hx] at HM
    obtain ⟨n, rfl⟩ := Int.eq_ofNat_of_zero_le hx.1
    have hn : n < secs s / 8 := by omega
    have hp : loadP s (n : Int) = loadI n 8 s [] := by unfold loadP; rw [if_pos hx, Int.toNat_natCast]
    rw [hp]
    have HN := Lib.hid hn
    clear hx hn hp
    generalize hQ : loadI n 8 s [] = r
    have HQ := Lib.hid hQ
    clear hQ
    go_enter Tryd.func11, Tryd.ntmps11
    go_wp2_with fail
    rw [HW1.out]
    go_wp2_with fail
    refine HM.out.mono ?_
    rintro e w2 ⟨rfl, rfl⟩
    go_wp2_with (at_make; refine wpList_make_full _ rfl _ _ 22 rfl w1.heap.size 5 i0 _ 1 Tryd.underlying22 hi0 hz0 hz1 _ _ _ _ 4096 rfl rfl rfl rfl (by rw [hz2]; omega) (by simp only [maxLen]; omega) (Nat.le_refl _) ?_; intro w3 hown3 hg3)
    have hb3 := below_none hg3
    have ho3 : Own w3 w1.heap.size 5 (.slice (some ⟨w1.heap.size, 0, none⟩) 4096 4096) (zsB 4096) := own_zeros hown3
    obtain ⟨w4, hw4⟩ : ∃ w4, w3.alloc (.cells #[.slice (some ⟨w1.heap.size, 0, none⟩) 4096 4096] 22) = w4 := ⟨_, rfl⟩
    have hb4 : Below w3.heap.size w3 w4 := hw4 ▸ below_new w3 _
    have hs4 : w4.heap.size = w3.heap.size + 1 := by rw [← hw4]; simp
    have o4 : One w4 w3.heap.size (.slice (some ⟨w1.heap.size, 0, none⟩) 4096 4096) 22 := hw4 ▸ of_box
    have hb14 : Below w1.heap.size w1 w4 := hb3.trans (hb4.mono hb3.size)
    have hb04 : Below w.heap.size w w4 := HB1.out.trans (hb14.mono HB1.out.size)
    have own4 : Own w4 w1.heap.size 5 (.slice (some ⟨w1.heap.size, 0, none⟩) 4096 4096) (zsB 4096) := own_trn ho3 (Trn.of_below hb4 : Trn (fun _ => False) w3 w4) (fun _ _ f => f)
    have hgt : w1.heap.size < w3.heap.size := by
      obtain ⟨c2, h2⟩ := ownsRow_block (ho3.lower (Nat.zero_le _)) (k := w1.heap.size) rfl
      exact (Array.getElem?_eq_some_iff.1 h2).1
    have cd4 : One w4 w.heap.size (.pointer (some ⟨d, 0, none⟩)) 32 := HO1.out.trn (Trn.of_below hb14 : Trn (fun _ => False) w1 w4) (fun f => f)
    have hst : LoadSt w S d w.heap.size w3.heap.size w1.heap.size n s 0 w4 s (zsB 4096) := ⟨H.out.below hb04, own4.lower (Nat.zero_le _), cd4, o4, rfl, by simp, Trn.of_below hb04⟩
    have hs1 := HS1.out
    have HT := Lib.hid (load_through w w4 S d _ _ _ n s HN.out H.out.ok.few hst hb04.size H.out.lt ⟨Nat.le_refl _, by omega⟩ ⟨by omega, by omega⟩ ⟨by omega, by omega⟩)
    have HSZ := Lib.hid hs1
    clear hs1 hst cd4 hgt own4 hb04 hb14 o4 hs4 hb4 ho3 hb3 hown3 hg3
    rw [hw4]
    clear hw4 HW1
    refine HT.out.mono ?_
    rintro e w5 (⟨rfl, s', B, hst5⟩ | ⟨er, her, rfl, s', hl, hdk, ht⟩)
    · have cb := hst5.cb.cell
      have HST := Lib.hid hst5
      clear hst5
      go_wp2_with fail
      go_ret2
      rw [← HQ.out]
      have hrest := HST.out.rest
      rw [Nat.sub_self, loadI, List.take_of_length_le (by have := own_len HST.out.own; omega)] at hrest
      rw [hrest]
      exact ⟨_, rfl, own_up HST.out.own (by have := HSZ.out; omega), HST.out.dsk, HST.out.trn⟩
    · have hne : ((er : Int) != 0) = true := by simp only [bne, beq_eq_false_iff_ne, Bool.not_eq_true', ne_eq]; omega
      have HL := Lib.hid hl
      have HD := Lib.hid hdk
      have HTR := Lib.hid ht
      clear hl hdk ht her
      go_wp2_with fail
      go_ret2
      rw [← HQ.out, HL.out]
      exact ⟨_, rfl, World.ownsRow_nil _ _ _ 1, HD.out, HTR.out⟩
  · rw [if_neg hx] at HM
    have hp : loadP s x = ([], 2, s) := by unfold loadP; rw [if_neg hx]
    rw [hp]
    clear hx hp
    generalize hQ : (([], 2, s) : List UInt8 × Nat × St) = r
    have HQ := Lib.hid hQ
    clear hQ
    go_enter Tryd.func11, Tryd.ntmps11
    go_wp2_with fail
    rw [HW1.out]
    go_wp2_with fail
    refine HM.out.mono ?_
    rintro e w2 ⟨rfl, rfl⟩
    go_wp2_with fail
    go_ret2
    rw [← HQ.out]
    exact ⟨_, rfl, World.ownsRow_nil _ _ _ 1, H.out.below HB1.out, Trn.of_below HB1.out⟩
theorem load_nil (w : World) (x : Int) : Calls Tryd.prog 11 #[.pointer none, .int .i64 x] w fun e w' => e = .returned (.tuple #[.slice none 0 0, .int .i64 1]) ∧ Below w.heap.size w w' := by
  obtain ⟨w1, hw1⟩ : ∃ w1, w.alloc (.cells #[.pointer none] 32) = w1 := ⟨_, rfl⟩
  have c1 := (show One w1 w.heap.size (.pointer none) 32 from hw1 ▸ of_box).cell
  have HB1 : Hid (Below w.heap.size w w1) := hw1 ▸ below_new w _
  have HW1 := Lib.hid hw1
  clear hw1
  go_enter Tryd.func11, Tryd.ntmps11
  go_wp2_with fail
  rw [HW1.out]
  go_wp2_with fail
  refine (missing_nil w1 x).mono ?_
  rintro e w2 ⟨rfl, rfl⟩
  go_wp2_with fail
  go_ret2
  exact ⟨rfl, HB1.out⟩
end Go.Proofs.YtagchbpofoidmaaDoor

/-
  Package page over sectors: Save by its contract. Conditions: none but that the disk and the bytes lie there, apart.
-/
namespace Go.Proofs.YtagchbpofoidmaaDoor
set_option maxRecDepth 100000
open Go.RowKit Go.Maps

def partB (b : List UInt8) (i : Nat) : List UInt8 := (b.drop (512 * i)).take 512
theorem partB_len {b : List UInt8} {i : Nat} (hb : b.length = 4096) (hi : i < 8) : (partB b i).length = 512 := by unfold partB; rw [List.length_take, List.length_drop]; omega
/-- A page's sectors written, k of them left. -/
def saveI (n : Nat) (b : List UInt8) : Nat → St → Nat × St
  | 0, s => (0, s)
  | k + 1, s => if (writeR s ((8 * n + (7 - k) : Nat) : Int) (partB b (7 - k))).1 = 0 then saveI n b k (writeR s ((8 * n + (7 - k) : Nat) : Int) (partB b (7 - k))).2 else writeR s ((8 * n + (7 - k) : Nat) : Int) (partB b (7 - k))
def saveP (s : St) (x : Int) (b : List UInt8) : Nat × St := if (0 ≤ x ∧ x < ((secs s / 8 : Nat) : Int)) ∧ b.length = 4096 then saveI x.toNat b 8 s else (2, s)
theorem saveI_next {n i : Nat} {b : List UInt8} (hi : i < 8) (s : St) : saveI n b (8 - i) s = if (writeR s ((8 * n + i : Nat) : Int) (partB b i)).1 = 0 then saveI n b (8 - (i + 1)) (writeR s ((8 * n + i : Nat) : Int) (partB b i)).2 else writeR s ((8 * n + i : Nat) : Int) (partB b i) := by
  rw [show 8 - i = (7 - i) + 1 by omega, saveI, show 7 - (7 - i) = i by omega, show 8 - (i + 1) = 7 - i by omega]
theorem writeR_in (s : St) (x : Int) (l : List UInt8) : (writeR s x l).1 ≤ 8 ∧ secs (writeR s x l).2 = secs s := by
  unfold writeR
  split
  · split
    · exact ⟨by omega, rfl⟩
    · exact ⟨by omega, rfl⟩
  · exact ⟨by omega, rfl⟩
theorem cut_block {A : Option Addr} {n c k n1 c1 : Nat} {P : Prop} [Decidable P] : ∀ j, (Value.slice (if P then A else A.map (·.add k)) n1 c1).ownBlock = some j → (Value.slice A n c).ownBlock = some j := by
  intro j
  cases A <;> split <;> simp [Value.ownBlock, Addr.add]
  split <;> exact id
theorem Byt.midrunO {w : World} {A : Option Addr} {n c : Nat} {l : List UInt8} (h : Byt w (.slice A n c) l) (a b : Nat) (hab : a ≤ b) (hb : b ≤ n) :
    ∃ A1 n1 c1, (∀ W, (Instr.slice 22 (.slice A n c) (some (.int .i64 (a : Int))) (some (.int .i64 (b : Int))) none).run Tryd.prog W = .ok (.slice A1 n1 c1) W) ∧ Byt w (.slice A1 n1 c1) ((l.drop a).take (b - a)) ∧ (∀ j, (Value.slice A1 n1 c1).ownBlock = some j → (Value.slice A n c).ownBlock = some j) := by
  have h1 := h.cut (k := a) (by omega)
  have h2 := h1.upto (k := b - a) (by omega)
  have hln : l.length = n ∧ n ≤ c := by obtain ⟨_, _, hv, h9, _⟩ := h; injection hv with _ e e9; subst e9; exact ⟨e.symm, by omega⟩
  refine ⟨_, b - a, _, fun W => ?_, h2, cut_block⟩
  rw [run_slice_lh W 22 _ n c elemByte .i64 .i64 _ _ (by omega) (by omega) (by omega), sizeByte]
  simp [Result.andThen, sliced]
set_option maxRecDepth 100000 in
set_option maxHeartbeats 2000000 in
/-- The closure that Save hands to through. -/
theorem save1_is (w : World) (S : Nat → Prop) (d db bb a pt : Nat) (s : St) (A : Option Addr) (c : Nat) (l : List UInt8) (h : Dsk w S d s) (hd : One w db (.pointer (some ⟨d, 0, none⟩)) 32) (hb : One w bb (.slice A 4096 c) 22)
    (hv : Byt w (.slice A 4096 c) l) (hne : ∀ k, (Value.slice A 4096 c).ownBlock = some k → ¬ S k) (hdb : ¬ S db) (hbb : ¬ S bb) (hpt : pt + 512 ≤ 4096) :
    Calls Tryd.prog 48 #[.int .i64 (a : Int), .int .i64 (pt : Int), .pointer (some ⟨db, 0, none⟩), .pointer (some ⟨bb, 0, none⟩)] w (Done w S d (writeR s (a : Int) ((l.drop pt).take 512))) := by
  obtain ⟨A1, n1, c1, hcut, hby, hob⟩ := hv.midrunO pt (pt + 512) (by omega) hpt
  rw [show ((pt + 512 : Nat) : Int) = (pt : Int) + 512 by omega] at hcut
  have hwp : IntKind.i64.wrap ((pt : Int) + 512) = (pt : Int) + 512 := by rw [IntKind.wrap_i64]; omega
  rw [Nat.add_sub_cancel_left] at hby
  have htd : Trn S w w.drew := (Trn.refl S w).drew
  have HD := Lib.hid (hd.trn htd hdb)
  have HB := Lib.hid (hb.trn htd hbb)
  have HND := Lib.hid hdb
  have HNB := Lib.hid hbb
  have HWR := Lib.hid (write_any w.drew S d s (a : Int) (.slice A1 n1 c1) _ (h.below (Below.refl _ _).drew) (hby.below (Below.refl _ _).drew) (fun k e => hne k (hob k e)))
  generalize writeR s (a : Int) ((l.drop pt).take 512) = r at *
  have HDN : Hid (∀ e w', Done w.drew S d r e w' → Done w S d r e w') := fun e w' h => ⟨h.1, h.2.1, htd.trans h.2.2 (fun _ _ h => h)⟩
  clear h hd hb hv hne hdb hbb hby hob htd
  go_enter Tryd.func48, Tryd.ntmps48
  go_wp2_with fail
  refine wp_region_R (R := fun x y => Trn S x y) (by kernel_rfl) (fun _ => Trn.refl _ _) (fun h k => h.trans k (fun _ _ h => h)) (by kernel_rfl) (fun d v c a w h => by cases d <;> exact h)
    [(0, false), (1, false), (2, false), (3, false), (4, false), (5, false), (6, false), (7, true), (8, false)] rfl (by kernel_rfl) (by kernel_rfl) ?_
  simp only [sel, List.getElem?_toArray, List.getElem?_cons_succ, List.getElem?_cons_zero]
  generalize w.drew = wd at *
  (refine sch_take ?_ rfl ?_ ?_; rotate_left; (focus (intro u hu; have c1 := (HD.out.trn hu HND.out).cell; clear hu; go_simp <;> rfl)); simp only [Act.put, List.setIfInBounds_toArray, List.set_cons_zero, List.set_cons_succ])
  (refine sch_take ?_ rfl ?_ ?_; rotate_left; (focus (intro u hu; go_simp <;> rfl)); simp only [Act.put, List.setIfInBounds_toArray, List.set_cons_zero, List.set_cons_succ])
  (refine sch_take ?_ rfl ?_ ?_; rotate_left; (focus (intro u hu; have c1 := (HB.out.trn hu HNB.out).cell; clear hu; go_simp <;> rfl)); simp only [Act.put, List.setIfInBounds_toArray, List.set_cons_zero, List.set_cons_succ])
  iterate 4 (refine sch_take ?_ rfl ?_ ?_; rotate_left; (focus (intro u hu; go_simp <;> rfl)); simp only [Act.put, List.setIfInBounds_toArray, List.set_cons_zero, List.set_cons_succ])
  refine sch_call rfl ?_
  intro K hK
  go_simp
  refine (HWR.out).mono ?_
  rintro e w4 hdn; obtain ⟨rfl, hdk4, ht4⟩ := id hdn
  go_wp2_with fail
  refine hK _ _ ht4 ?_
  clear hK K
  have HDD := Lib.hid (HDN.out _ _ hdn)
  clear hdn hdk4 ht4
  (refine sch_take ?_ rfl ?_ ?_; rotate_left; (focus (intro u hu; go_simp <;> rfl)); simp only [Act.put, List.setIfInBounds_toArray, List.set_cons_zero, List.set_cons_succ])
  refine sch_nil ?_
  go_wp2_with fail
  go_ret
  exact HDD.out
theorem enterS1 : ∀ args W, (callFunc 48 args).run Tryd.prog W = .ok (.enter 48 args) W := fun _ _ => rfl
/-- Save under way: i sectors are written. -/
structure SaveSt (w0 : World) (S S' : Nat → Prop) (d db bb n : Nat) (x0 x1 : Nat) (s : St) (A : Option Addr) (c : Nat) (b : List UInt8) (i : Nat) (W : World) (s' : St) : Prop where
  dsk : Dsk W S' d s'
  foot : ∀ k, S' k → S k ∨ x1 ≤ k
  cd : One W db (.pointer (some ⟨d, 0, none⟩)) 32
  cb : One W bb (.slice A 4096 c) 22
  byt : Byt W (.slice A 4096 c) b
  sec : secs s' = secs s
  rest : saveI n b 8 s = saveI n b (8 - i) s'
  trn : Trn S w0 W
def SaveJ (w0 : World) (S : Nat → Prop) (d n x1 : Nat) (s : St) (b : List UInt8) (er : Nat) (W : World) : Prop := ∃ S' s', saveI n b 8 s = (er, s') ∧ Dsk W S' d s' ∧ (∀ k, S' k → S k ∨ x1 ≤ k) ∧ Trn S w0 W
theorem byt_set {W : World} {A : Option Addr} {n c j : Nat} {v : Value} {l : List UInt8} (h : Byt W (.slice A n c) l) (hne : ∀ k, (Value.slice A n c).ownBlock = some k → k ≠ j) : Byt (W.setCell ⟨j, 0, none⟩ v) (.slice A n c) l := h.trn (trn_set W j v) hne
theorem save_through (w0 w : World) (S : Nat → Prop) (d db bb n : Nat) (s : St) (A : Option Addr) (c : Nat) (b : List UInt8) (hn : n < secs s / 8) (hs8 : secs s ≤ 32768) (h : Dsk w S d s) (hcd : One w db (.pointer (some ⟨d, 0, none⟩)) 32) (hcb : One w bb (.slice A 4096 c) 22)
    (hby : Byt w (.slice A 4096 c) b) (hne : ∀ k, (Value.slice A 4096 c).ownBlock = some k → ¬ S k ∧ k < w.heap.size) (htr : Trn S w0 w) (hS : ∀ k, S k → k < w0.heap.size) (hdb : w0.heap.size ≤ db ∧ db < w.heap.size) (hbb : w0.heap.size ≤ bb ∧ bb < w.heap.size) :
    Calls Tryd.prog 44 #[.int .i64 (n : Int), .func (.func 48) #[] #[.pointer (some ⟨db, 0, none⟩), .pointer (some ⟨bb, 0, none⟩)]] w (ThPost (fun i W => ∃ S' s', SaveSt w0 S S' d db bb n w0.heap.size (w.heap.size + 2) s A c b i W s') (SaveJ w0 S d n (w.heap.size + 2) s b)) := by
  have hw := htr.size
  refine through_any w n _ _ _ _ (by omega) enterS1 ?_ ?_ ?_ ?_
  · intro W hb _
    have ht : Trn (fun _ => False) w W := Trn.of_below hb
    exact ⟨S, s, h.below hb, fun k hk => .inl hk, hcd.trn ht (fun f => f), hcb.trn ht (fun f => f), hby.below hb, rfl, rfl, htr.trans ht (fun _ _ f => f.elim)⟩
  · rintro i W hi ⟨S', s', hst⟩ hm1 hm2
    have hW1 : w.heap.size + 1 < W.heap.size := (Array.getElem?_eq_some_iff.1 hm2).1
    have nk : ∀ k, w0.heap.size ≤ k → k < w.heap.size + 2 → ¬ S' k := fun k h1 h2 h => (hst.foot k h).elim (fun h => by have := hS _ h; omega) (fun h => by omega)
    have nb : ∀ k, (Value.slice A 4096 c).ownBlock = some k → ¬ S' k := fun k e h => (hst.foot k h).elim (hne k e).1 (fun h => by have := (hne k e).2; omega)
    have hnx := saveI_next (n := n) (b := b) hi s'
    have hwi := writeR_in s' ((8 * n + i : Nat) : Int) (partB b i)
    refine (save1_is W S' d db bb (8 * n + i) (512 * i) s' A c b hst.dsk hst.cd hst.cb hst.byt nb (nk _ hdb.1 (by omega)) (nk _ hbb.1 (by omega)) (by omega)).mono ?_
    rintro e w' ⟨rfl, hdk, ht⟩
    rw [show (b.drop (512 * i)).take 512 = partB b i from rfl] at *
    have hfoot : ∀ k, more S' W w' k → S k ∨ w.heap.size + 2 ≤ k := fun k hk => hk.elim (hst.foot k) (fun h => .inr (by omega))
    have htr' : Trn S w0 w' := hst.trn.trans ht (fun k hk h => (hst.foot k h).elim id (fun e => by omega))
    refine ⟨_, rfl, by have := hwi.1; omega, (ht.block _ (Array.getElem?_eq_some_iff.1 hm1).1 (nk _ hw (by omega))).trans hm1, (ht.block _ (Array.getElem?_eq_some_iff.1 hm2).1 (nk _ (by omega) (by omega))).trans hm2, fun e0 => ?_, fun e0 => ?_⟩
    · refine ⟨_, _, hdk, hfoot, hst.cd.trn ht (nk _ hdb.1 (by omega)), hst.cb.trn ht (nk _ hbb.1 (by omega)), hst.byt.trn ht nb, hwi.2.trans hst.sec, ?_, htr'⟩
      rw [hst.rest, hnx, if_pos e0]
    · refine ⟨_, _, ?_, hdk, hfoot, htr'⟩
      rw [hst.rest, hnx, if_neg e0]
  · rintro i W j v ⟨S', s', hst⟩ hj
    have nj : ¬ S' j := fun h => (hst.foot j h).elim (fun h => by have := hS _ h; omega) (fun h => by omega)
    exact ⟨S', s', hst.dsk.trn (trn_set W j v) (fun k hk e => nj (e ▸ hk)), hst.foot, hst.cd.trn (trn_set W j v) (by omega), hst.cb.trn (trn_set W j v) (by omega), byt_set hst.byt (fun k e => by have := (hne k e).2; omega), hst.sec, hst.rest, hst.trn.setCell _ (fun hlt => by omega)⟩
  · rintro i W j v ⟨S', s', h1, h2, h3, h4⟩ hj
    have nj : ¬ S' j := fun h => (h3 j h).elim (fun h => by have := hS _ h; omega) (fun h => by omega)
    exact ⟨S', s', h1, h2.trn (trn_set W j v) (fun k hk e => nj (e ▸ hk)), h3, h4.setCell _ (fun hlt => by omega)⟩
theorem foot_more {w0 w' : World} {S S' : Nat → Prop} {d x1 : Nat} {s : St} (h : Dsk w' S' d s) (hf : ∀ k, S' k → S k ∨ x1 ≤ k) (hx : w0.heap.size ≤ x1) (hS : ∀ k, S k → k < w0.heap.size) (hw : w0.heap.size ≤ w'.heap.size) : Dsk w' (more S w0 w') d s :=
  h.wide (fun k hk => (hf k hk).elim .inl (fun e => .inr ⟨by omega, h.lt k hk⟩)) (more_lt hw hS)
set_option maxRecDepth 100000 in
set_option maxHeartbeats 2000000 in
theorem save_is (w : World) (S : Nat → Prop) (d : Nat) (s : St) (x : Int) (v : Value) (b : List UInt8) (h : Dsk w S d s) (hv : Byt w v b) (hne : ∀ k, v.ownBlock = some k → ¬ S k) (hlo : ∀ k, v.ownBlock = some k → k < w.heap.size) :
    Calls Tryd.prog 14 #[.pointer (some ⟨d, 0, none⟩), .int .i64 x, v] w (Done w S d (saveP s x b)) := by
  have hmf : ∀ (fn : Fn) (first cap : Array Value) (w : World), (Instr.makeFunc fn first cap).run Tryd.prog w = .ok (.func fn first cap) w := fun _ _ _ _ => rfl
  obtain ⟨A, m, c, rfl, N, hnc, hcm⟩ := hv.form
  obtain ⟨wa, hwa⟩ : ∃ wa, w.alloc (.cells #[.pointer (some ⟨d, 0, none⟩)] 32) = wa := ⟨_, rfl⟩
  obtain ⟨w1, hw1⟩ : ∃ w1, wa.alloc (.cells #[.slice A m c] 22) = w1 := ⟨_, rfl⟩
  have hba : Below w.heap.size w wa := hwa ▸ below_new w _
  have hb1 : Below wa.heap.size wa w1 := hw1 ▸ below_new wa _
  have hb : Below w.heap.size w w1 := hba.trans (hb1.mono hba.size)
  have hsa : wa.heap.size = w.heap.size + 1 := by rw [← hwa]; simp
  have hs1 : w1.heap.size = w.heap.size + 2 := by rw [← hw1]; simp [hsa]
  have oa : One w1 w.heap.size (.pointer (some ⟨d, 0, none⟩)) 32 := (hwa ▸ of_box : One wa w.heap.size (.pointer (some ⟨d, 0, none⟩)) 32).trn (Trn.of_below hb1 : Trn (fun _ => False) wa w1) (fun f => f)
  have ob : One w1 (w.heap.size + 1) (.slice A m c) 22 := by
    have := (hw1 ▸ of_box : One w1 wa.heap.size (.slice A m c) 22)
    rw [hsa] at this
    exact this
  have c1 := oa.cell
  have c2 := ob.cell
  have HW1 : Hid ((w.alloc (.cells #[.pointer (some ⟨d, 0, none⟩)] 32)).alloc (.cells #[.slice A m c] 22) = w1) := by rw [Hid, hwa, hw1]
  have HB1 := Lib.hid hb
  have HS1 := Lib.hid hs1
  have HOA := Lib.hid oa
  have HOB := Lib.hid ob
  have HV := Lib.hid hv
  have HM := Lib.hid (missing_is w1 S d s x (h.below hb))
  have H := Lib.hid h
  have HNE := Lib.hid hne
  have HLO := Lib.hid hlo
  clear h hv hne hlo hw1 hwa hba hb1 hb hsa hs1 oa ob
  by_cases hx : 0 ≤ x ∧ x < ((secs s / 8 : Nat) : Int)
  · rw [if_pos hx] at HM
    by_cases hl : b.length = 4096
    · obtain ⟨n, rfl⟩ := Int.eq_ofNat_of_zero_le hx.1
      have hn : n < secs s / 8 := by omega
      have hp : saveP s (n : Int) b = saveI n b 8 s := by unfold saveP; rw [if_pos ⟨hx, hl⟩, Int.toNat_natCast]
      rw [hp]
      have HN := Lib.hid hn
      obtain rfl : m = 4096 := N.out.trans hl
      clear hx hn hp hl
      generalize hQ : saveI n b 8 s = r
      have HQ := Lib.hid hQ
      clear hQ
      go_enter Tryd.func14, Tryd.ntmps14
      go_wp2_with fail
      rw [HW1.out]
      go_wp2_with fail
      refine HM.out.mono ?_
      rintro e w2 ⟨rfl, rfl⟩
      go_wp2_with fail
      have HT := Lib.hid (save_through w w1 S d w.heap.size (w.heap.size + 1) n s A c b HN.out H.out.ok.few (H.out.below HB1.out) HOA.out HOB.out (HV.out.below HB1.out) (fun k e => ⟨HNE.out k e, by have := HLO.out k e; have := HB1.out.size; omega⟩) (Trn.of_below HB1.out) H.out.lt ⟨Nat.le_refl _, by have := HS1.out; omega⟩ ⟨by omega, by have := HS1.out; omega⟩)
      refine HT.out.mono ?_
      rintro e w5 (⟨rfl, S', s', hst⟩ | ⟨er, her, rfl, S', s', hl, hdk, hf, ht⟩)
      · have HST := Lib.hid hst
        clear hst
        go_wp2_with fail
        go_ret
        have hrest := HST.out.rest
        rw [Nat.sub_self, saveI] at hrest
        rw [← HQ.out, hrest]
        exact ⟨rfl, foot_more HST.out.dsk HST.out.foot (by have := HB1.out.size; omega) H.out.lt HST.out.trn.size, HST.out.trn⟩
      · have HLL := Lib.hid hl
        have HDK := Lib.hid hdk
        have HF := Lib.hid hf
        have HTR := Lib.hid ht
        clear hl hdk hf ht her
        go_wp2_with fail
        go_ret
        rw [← HQ.out, HLL.out]
        exact ⟨rfl, foot_more HDK.out HF.out (by have := HB1.out.size; omega) H.out.lt HTR.out.size, HTR.out⟩
    · have hp : saveP s x b = (2, s) := by unfold saveP; rw [if_neg (fun h => hl h.2)]
      rw [hp]
      have hm : ((m : Int) != 4096) = true := by have := N.out; simp only [bne, beq_eq_false_iff_ne, Bool.not_eq_true', ne_eq]; omega
      clear hx hp hl N
      go_enter Tryd.func14, Tryd.ntmps14
      go_wp2_with fail
      rw [HW1.out]
      go_wp2_with fail
      refine HM.out.mono ?_
      rintro e w2 ⟨rfl, rfl⟩
      go_wp2_with fail
      go_ret
      exact ⟨rfl, (H.out.below HB1.out).more HB1.out.size H.out.lt, Trn.of_below HB1.out⟩
  · rw [if_neg hx] at HM
    have hp : saveP s x b = (2, s) := by unfold saveP; rw [if_neg (fun h => hx h.1)]
    rw [hp]
    clear hx hp N
    go_enter Tryd.func14, Tryd.ntmps14
    go_wp2_with fail
    rw [HW1.out]
    go_wp2_with fail
    refine HM.out.mono ?_
    rintro e w2 ⟨rfl, rfl⟩
    go_wp2_with fail
    go_ret
    exact ⟨rfl, (H.out.below HB1.out).more HB1.out.size H.out.lt, Trn.of_below HB1.out⟩
theorem save_nil (w : World) (x : Int) (v : Value) (b : List UInt8) (hv : Byt w v b) : Calls Tryd.prog 14 #[.pointer none, .int .i64 x, v] w fun e w' => e = .returned (.int .i64 1) ∧ Below w.heap.size w w' := by
  obtain ⟨A, m, c, rfl, N, hnc, hcm⟩ := hv.form
  obtain ⟨wa, hwa⟩ : ∃ wa, w.alloc (.cells #[.pointer none] 32) = wa := ⟨_, rfl⟩
  obtain ⟨w1, hw1⟩ : ∃ w1, wa.alloc (.cells #[.slice A m c] 22) = w1 := ⟨_, rfl⟩
  have hba : Below w.heap.size w wa := hwa ▸ below_new w _
  have hb1 : Below wa.heap.size wa w1 := hw1 ▸ below_new wa _
  have hb : Below w.heap.size w w1 := hba.trans (hb1.mono hba.size)
  have hsa : wa.heap.size = w.heap.size + 1 := by rw [← hwa]; simp
  have hs1 : w1.heap.size = w.heap.size + 2 := by rw [← hw1]; simp [hsa]
  have oa : One w1 w.heap.size (.pointer none) 32 := (hwa ▸ of_box : One wa w.heap.size (.pointer none) 32).trn (Trn.of_below hb1 : Trn (fun _ => False) wa w1) (fun f => f)
  have ob : One w1 (w.heap.size + 1) (.slice A m c) 22 := by
    have := (hw1 ▸ of_box : One w1 wa.heap.size (.slice A m c) 22)
    rw [hsa] at this
    exact this
  have c1 := oa.cell
  have c2 := ob.cell
  have HW1 : Hid ((w.alloc (.cells #[.pointer none] 32)).alloc (.cells #[.slice A m c] 22) = w1) := by rw [Hid, hwa, hw1]
  have HB1 := Lib.hid hb
  have HS1 := Lib.hid hs1
  have HOA := Lib.hid oa
  have HOB := Lib.hid ob
  have HM := Lib.hid (missing_nil w1 x)
  clear hv hw1 hwa hba hb1 hb hsa hs1 oa ob N
  go_enter Tryd.func14, Tryd.ntmps14
  go_wp2_with fail
  rw [HW1.out]
  go_wp2_with fail
  refine HM.out.mono ?_
  rintro e w2 ⟨rfl, rfl⟩
  go_wp2_with fail
  go_ret
  exact ⟨rfl, HB1.out⟩
end Go.Proofs.YtagchbpofoidmaaDoor

/-
  The document's pages over sectors (tallymanref05): Pages, Load, Save by their contracts. Conditions: none but that the disk and the bytes lie there, apart.
-/
namespace Go.Proofs.YtagchbpofoidmaaDoor
set_option maxRecDepth 100000
open Go.RowKit Go.Maps

theorem r5pages_is (w : World) (S : Nat → Prop) (g : Nat) (s : St) (h : Ref w S g s) :
    Calls Tryd.prog 30 #[.pointer (some ⟨g, 0, none⟩)] w fun e w' => e = .returned (.int .i64 ((secs s / 8 : Nat) : Int)) ∧ w = w' := by
  have H := Lib.hid (rsectors_is w S g s h)
  have hfew : secs s ≤ 32768 := h.ok.few
  clear h
  generalize secs s = k at *
  have hw : IntKind.i64.wrap ((k : Int) / 8) = ((k / 8 : Nat) : Int) := by rw [IntKind.wrap_i64]; omega
  go_enter Tryd.func30, Tryd.ntmps30
  go_wp2_with fail
  refine H.out.mono ?_
  rintro e w1 ⟨rfl, rfl⟩
  go_wp2_with fail
  go_ret
  exact ⟨ret_int (by first | omega | rw [hw]), rfl⟩
def RLoadRel (w : World) (S : Nat → Prop) (g n : Nat) (s : St) (v i : Value) (wr : World) : Prop :=
  ∃ (k : Nat) (s' : St) (acc : List UInt8), k ≤ 8 ∧ i = .int .i64 (k : Int) ∧ Own wr w.heap.size 5 v acc ∧ acc.length = 512 * k ∧ Ref wr S g s' ∧ secs s' = secs s ∧ loadI n 8 s [] = loadI n (8 - k) s' acc ∧ Trn S w wr
set_option maxRecDepth 100000 in
set_option maxHeartbeats 2000000 in
theorem r5load_is (w : World) (S : Nat → Prop) (g : Nat) (s : St) (x : Int) (h : Ref w S g s) :
    Calls Tryd.prog 29 #[.pointer (some ⟨g, 0, none⟩), .int .i64 x] w (RRed w S g (loadP s x)) := by
  obtain ⟨i0, hi0, hz0, hz1, hz2⟩ := info_parts uinfo
  have HP := Lib.hid (r5pages_is w S g s h)
  have H := Lib.hid h
  have HLT := Lib.hid h.lt
  have hfew := h.ok.few
  clear h
  by_cases hx : 0 ≤ x ∧ x < ((secs s / 8 : Nat) : Int)
  · obtain ⟨n, hxn⟩ := Int.eq_ofNat_of_zero_le hx.1
    have hn : n < secs s / 8 := by omega
    have hp : loadP s x = loadI n 8 s [] := by unfold loadP; rw [if_pos hx, hxn, Int.toNat_natCast]
    rw [hp]
    have HN := Lib.hid hn
    have HXN := Lib.hid hxn
    obtain ⟨h0, h1⟩ := hx
    have hx4 : x < 4096 := by omega
    clear hp hfew hxn hn
    generalize hQ : loadI n 8 s [] = r
    have HQ := Lib.hid hQ
    clear hQ
    generalize hsd : secs s / 8 = sd at *
    have HSD := Lib.hid hsd
    clear hsd
    go_enter Tryd.func29, Tryd.ntmps29
    go_wp2_with fail
    refine HP.out.mono ?_
    rintro e w1 ⟨rfl, rfl⟩
    go_wp2_with fail
    go_loopw [6, 7] (fun v i wr => RLoadRel w S g n s v i wr) (fun _ i _ => 8 - (intOf i).toNat)
    case atStart => exact ⟨0, s, [], by omega, rfl, World.ownsRow_nil _ _ _ 1, rfl, H.out, rfl, rfl, Trn.refl _ _⟩
    case round =>
      obtain ⟨k, s', acc, hk, rfl, hown, hlen, href, hsec, hrest, htr⟩ := hrel
      have HO := Lib.hid hown
      have HLE := Lib.hid hlen
      have HR := Lib.hid href
      have HSE := Lib.hid hsec
      have HRE := Lib.hid hrest
      have HT := Lib.hid htr
      obtain ⟨Av, nv, cv, rfl, Nv, hncv, hcmv⟩ := hown.byt.form
      clear hown hlen href hsec hrest htr
      by_cases hlt : k < 8
      · have ha : 8 * n + k < secs s' := by have := HSE.out; have := HSD.out; have := HN.out; omega
        have hri := readR_in HR.out.ok ha
        have hnx := loadI_next (n := n) hlt s' acc
        have CS := Lib.hid (rread_is wr S g s' ((8 * n + k : Nat) : Int) HR.out)
        generalize readR s' ((8 * n + k : Nat) : Int) = q at *
        rw [show ((8 * n + k : Nat) : Int) = 8 * x + (k : Int) by have := HXN.out; omega] at CS
        have HRI := Lib.hid hri
        have HNX := Lib.hid hnx
        clear hri hnx ha
        go_wp2_with fail
        refine CS.out.mono ?_
        rintro e w2 ⟨v2, rfl, hown2, href2, ht2⟩
        have HO2 := Lib.hid hown2
        have HR2 := Lib.hid href2
        have HT2 := Lib.hid ht2
        have HOV : Hid (Own w2 w.heap.size 5 (.slice Av nv cv) acc) := own_trn HO.out ht2 (fun j e hs => by have := (World.ownsRow.lt HO.out j e).1; have := HLT.out j hs; omega)
        obtain ⟨A2, n2, c2, rfl, N2, hnc2, hcm2⟩ := hown2.byt.form
        clear hown2 href2 ht2
        by_cases e0 : q.2.1 = 0
        · have HL2 := Lib.hid (HRI.out.1 e0)
          have HNN := Lib.hid (HNX.out.trans (if_pos e0))
          have hz : ((q.2.1 : Nat) : Int) = 0 := by omega
          have HE0 := Lib.hid e0
          clear e0
          rw [hz]
          clear hz
          go_wp2_with (at_builtin; refine wpList_app _ rfl (.tmp 34) (.tmp 35) _ rfl w.heap.size 5 i0 _ Tryd.underlying22 hi0 hz0 hz1 hz2 rfl _ _ rfl HOV.out _ q.1 rfl HO2.out.byt (by have := HL2.out; have := HLE.out; omega) (Nat.le_trans HT.out.size HT2.out.size) ?_; intro v3 w3 hown3 hg3 hat3)
          have ht3 : Trn (fun j => (Value.slice Av nv cv).ownBlock = some j) w2 w3 := Trn.of_grown hg3 (fun j e => e)
          have HO3 := Lib.hid hown3
          have HR3 : Hid (Ref w3 S g q.2.2) := HR2.out.trn ht3 (fun j hs e => by have := (World.ownsRow.lt HOV.out j e).1; have := HLT.out j hs; omega)
          have HT3 : Hid (Trn S w w3) := (HT.out.trans HT2.out (fun _ _ h => h)).trans ht3 (fun j hj e => by have := (World.ownsRow.lt HOV.out j e).1; omega)
          clear hown3 hg3 hat3 ht3
          go_roundw
          case rel =>
            refine ⟨k + 1, q.2.2, acc ++ q.1, by omega, by go_num, HO3.out, ?_, HR3.out, HRI.out.2.2.2.1.trans HSE.out, HRE.out.trans HNN.out, HT3.out⟩
            rw [List.length_append, HLE.out, HL2.out]; omega
          case measure => simp [intOf]; omega
        · have hne : (((q.2.1 : Nat) : Int) != 0) = true := by simp only [bne, beq_eq_false_iff_ne, Bool.not_eq_true', ne_eq]; omega
          have HNN := Lib.hid (HNX.out.trans (if_neg e0))
          clear e0
          go_wp2_with fail
          go_ret2
          rw [← HQ.out, HRE.out, HNN.out]
          exact ⟨_, rfl, World.ownsRow_nil _ _ _ 1, HR2.out, HT.out.trans HT2.out (fun _ _ h => h)⟩
      · obtain rfl : k = 8 := by omega
        go_wp2_with fail
        go_ret2
        have hr := HRE.out
        rw [Nat.sub_self, loadI] at hr
        rw [← HQ.out, hr]
        exact ⟨_, rfl, HO.out, HR.out, HT.out⟩
  · have hp : loadP s x = ([], 2, s) := by unfold loadP; rw [if_neg hx]
    rw [hp]
    by_cases h0 : x < 0
    · clear hx
      go_enter Tryd.func29, Tryd.ntmps29
      go_wp2_with fail
      go_ret2
      exact ⟨_, rfl, World.ownsRow_nil _ _ _ 1, H.out, Trn.refl _ _⟩
    · have hge : ((secs s / 8 : Nat) : Int) ≤ x := by omega
      clear hx hfew hp
      generalize secs s / 8 = sd at *
      go_enter Tryd.func29, Tryd.ntmps29
      go_wp2_with fail
      refine HP.out.mono ?_
      rintro e w1 ⟨rfl, rfl⟩
      go_wp2_with fail
      go_ret2
      exact ⟨_, rfl, World.ownsRow_nil _ _ _ 1, H.out, Trn.refl _ _⟩
def RSaveRel (w : World) (S : Nat → Prop) (g n : Nat) (s : St) (v : Value) (b : List UInt8) (i : Value) (wr : World) : Prop :=
  ∃ (k : Nat) (s' : St) (S' : Nat → Prop), k ≤ 8 ∧ i = .int .i64 (k : Int) ∧ Ref wr S' g s' ∧ (∀ j, S' j → S j ∨ w.heap.size ≤ j) ∧ Byt wr v b ∧ secs s' = secs s ∧ saveI n b 8 s = saveI n b (8 - k) s' ∧ Trn S w wr
theorem rfoot_more {w0 w' : World} {S S' : Nat → Prop} {d : Nat} {s : St} (h : Ref w' S' d s) (hf : ∀ k, S' k → S k ∨ w0.heap.size ≤ k) (hS : ∀ k, S k → k < w0.heap.size) (hw : w0.heap.size ≤ w'.heap.size) : Ref w' (more S w0 w') d s :=
  h.wide (fun k hk => (hf k hk).elim .inl (fun e => .inr ⟨e, h.lt k hk⟩)) (more_lt hw hS)
set_option maxRecDepth 100000 in
set_option maxHeartbeats 2000000 in
theorem r5save_is (w : World) (S : Nat → Prop) (g : Nat) (s : St) (x : Int) (v : Value) (b : List UInt8) (h : Ref w S g s) (hv : Byt w v b) (hne : ∀ k, v.ownBlock = some k → ¬ S k) (hlo : ∀ k, v.ownBlock = some k → k < w.heap.size) :
    Calls Tryd.prog 28 #[.pointer (some ⟨g, 0, none⟩), .int .i64 x, v] w (RDone w S g (saveP s x b)) := by
  obtain ⟨A, m, c, rfl, N, hnc, hcm⟩ := hv.form
  have HP := Lib.hid (r5pages_is w S g s h)
  have H := Lib.hid h
  have HLT := Lib.hid h.lt
  have HV := Lib.hid hv
  have HNE := Lib.hid hne
  have HLO := Lib.hid hlo
  have hfew := h.ok.few
  clear h hv hne hlo
  by_cases hx : 0 ≤ x ∧ x < ((secs s / 8 : Nat) : Int)
  · by_cases hl : b.length = 4096
    · obtain ⟨n, hxn⟩ := Int.eq_ofNat_of_zero_le hx.1
      have hn : n < secs s / 8 := by omega
      have hp : saveP s x b = saveI n b 8 s := by unfold saveP; rw [if_pos ⟨hx, hl⟩, hxn, Int.toNat_natCast]
      rw [hp]
      obtain rfl : m = 4096 := N.out.trans hl
      have HN := Lib.hid hn
      have HXN := Lib.hid hxn
      obtain ⟨h0, h1⟩ := hx
      have hx4 : x < 4096 := by omega
      clear hp hfew hl N hn hxn
      generalize hQ : saveI n b 8 s = r
      have HQ := Lib.hid hQ
      clear hQ
      generalize hsd : secs s / 8 = sd at *
      have HSD := Lib.hid hsd
      clear hsd
      go_enter Tryd.func28, Tryd.ntmps28
      go_wp2_with fail
      refine HP.out.mono ?_
      rintro e w1 ⟨rfl, rfl⟩
      go_wp2_with fail
      go_loopw [7] (fun i wr => RSaveRel w S g n s (.slice A 4096 c) b i wr) (fun i _ => 8 - (intOf i).toNat)
      case atStart => exact ⟨0, s, S, by omega, rfl, H.out, fun j hj => .inl hj, HV.out, rfl, rfl, Trn.refl _ _⟩
      case round =>
        obtain ⟨k, s', S', hk, rfl, href, hf, hby, hsec, hrest, htr⟩ := hrel
        have HR := Lib.hid href
        have HF := Lib.hid hf
        have HBY := Lib.hid hby
        have HSE := Lib.hid hsec
        have HRE := Lib.hid hrest
        have HT := Lib.hid htr
        clear href hf hsec hrest htr
        by_cases hlt : k < 8
        · obtain ⟨A1, n1, c1, hcut, hb1, hob⟩ := hby.midrunO (512 * k) (512 * k + 512) (by omega) (by omega)
          rw [Nat.add_sub_cancel_left] at hb1
          have CS := Lib.hid (rwrite_any wr S' g s' ((8 * n + k : Nat) : Int) (.slice A1 n1 c1) (partB b k) HR.out hb1 (fun j e hs => (HF.out j hs).elim (HNE.out j (hob j e)) (fun h => by have := HLO.out j (hob j e); omega)))
          have HNX := Lib.hid (saveI_next (n := n) (b := b) hlt s')
          have HWI := Lib.hid (writeR_in s' ((8 * n + k : Nat) : Int) (partB b k))
          generalize writeR s' ((8 * n + k : Nat) : Int) (partB b k) = q at *
          rw [show ((8 * n + k : Nat) : Int) = 8 * x + (k : Int) by have := HXN.out; omega] at CS
          rw [show ((512 * k + 512 : Nat) : Int) = 512 * (k : Int) + 512 by omega, show ((512 * k : Nat) : Int) = 512 * (k : Int) by omega] at hcut
          clear hby hb1 hob
          go_wp2_with fail
          refine CS.out.mono ?_
          rintro e w2 ⟨rfl, href2, ht2⟩
          have HR2 := Lib.hid href2
          have HT2 : Hid (Trn S w w2) := HT.out.trans ht2 (fun j hj hs => (HF.out j hs).elim id (fun h => by omega))
          have HF2 : Hid (∀ j, more S' wr w2 j → S j ∨ w.heap.size ≤ j) := fun j hj => hj.elim (HF.out j) (fun h => .inr (by have := HT.out.size; omega))
          have HB2 : Hid (Byt w2 (.slice A 4096 c) b) := HBY.out.trn ht2 (fun j e hs => (HF.out j hs).elim (HNE.out j e) (fun h => by have := HLO.out j e; omega))
          clear href2 ht2
          by_cases e0 : q.1 = 0
          · have HNN := Lib.hid (HNX.out.trans (if_pos e0))
            have hz : ((q.1 : Nat) : Int) = 0 := by omega
            rw [hz]
            clear hz e0
            go_wp2_with fail
            go_roundw
            case rel => exact ⟨k + 1, q.2, _, by omega, by go_num, HR2.out, HF2.out, HB2.out, HWI.out.2.trans HSE.out, HRE.out.trans HNN.out, HT2.out⟩
            case measure => simp [intOf]; omega
          · have hne : (((q.1 : Nat) : Int) != 0) = true := by simp only [bne, beq_eq_false_iff_ne, Bool.not_eq_true', ne_eq]; omega
            have HNN := Lib.hid (HNX.out.trans (if_neg e0))
            clear e0
            go_wp2_with fail
            go_ret
            rw [← HQ.out, HRE.out, HNN.out]
            exact ⟨rfl, rfoot_more HR2.out HF2.out HLT.out HT2.out.size, HT2.out⟩
        · obtain rfl : k = 8 := by omega
          go_wp2_with fail
          go_ret
          have hr := HRE.out
          rw [Nat.sub_self, saveI] at hr
          rw [← HQ.out, hr]
          exact ⟨rfl, rfoot_more HR.out HF.out HLT.out HT.out.size, HT.out⟩
    · have hp : saveP s x b = (2, s) := by unfold saveP; rw [if_neg (fun h => hl h.2)]
      rw [hp]
      have hm : ((m : Int) != 4096) = true := by have := N.out; simp only [bne, beq_eq_false_iff_ne, Bool.not_eq_true', ne_eq]; omega
      obtain ⟨h0, h1⟩ := hx
      clear hp hl N hfew
      generalize secs s / 8 = sd at *
      go_enter Tryd.func28, Tryd.ntmps28
      go_wp2_with fail
      refine HP.out.mono ?_
      rintro e w1 ⟨rfl, rfl⟩
      go_wp2_with fail
      go_ret
      exact ⟨rfl, H.out.more (Nat.le_refl _) HLT.out, Trn.refl _ _⟩
  · have hp : saveP s x b = (2, s) := by unfold saveP; rw [if_neg (fun h => hx h.1)]
    rw [hp]
    by_cases h0 : x < 0
    · clear hx
      go_enter Tryd.func28, Tryd.ntmps28
      go_wp2_with fail
      go_ret
      exact ⟨rfl, H.out.more (Nat.le_refl _) HLT.out, Trn.refl _ _⟩
    · have hge : ((secs s / 8 : Nat) : Int) ≤ x := by omega
      clear hx hfew hp
      generalize secs s / 8 = sd at *
      go_enter Tryd.func28, Tryd.ntmps28
      go_wp2_with fail
      refine HP.out.mono ?_
      rintro e w1 ⟨rfl, rfl⟩
      go_wp2_with fail
      go_ret
      exact ⟨rfl, H.out.more (Nat.le_refl _) HLT.out, Trn.refl _ _⟩
end Go.Proofs.YtagchbpofoidmaaDoor

