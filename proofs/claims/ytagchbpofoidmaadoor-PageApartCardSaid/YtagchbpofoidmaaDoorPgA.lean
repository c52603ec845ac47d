/-
  Pages as plain bytes: what a page's bytes are, which bytes are a page's, and that one byte turned is none. Plain functions; no program is named here.
-/
import Derived.Test.YtagchbpofoidmaaDoorNum2
import Derived.Test.YtagchbpofoidmaaDoorCrc
namespace Go.Proofs.YtagchbpofoidmaaDoor
set_option maxRecDepth 100000

/-! Noughts at the end. -/
def trimR : List UInt8 → List UInt8
  | [] => []
  | x :: l => match trimR l with
    | [] => if x = 0 then [] else [x]
    | y :: m => x :: y :: m
theorem trimR_cons (x : UInt8) (l : List UInt8) : trimR (x :: l) = if trimR l = [] then (if x = 0 then [] else [x]) else x :: trimR l := by
  rw [trimR]
  cases trimR l with
  | nil => simp
  | cons y m => simp
theorem trimR_zero (l : List UInt8) : trimR (l ++ [0]) = trimR l := by
  induction l with
  | nil => rfl
  | cons x l ih => rw [List.cons_append, trimR_cons, trimR_cons, ih]
theorem trimR_last (l : List UInt8) (x : UInt8) (h : x ≠ 0) : trimR (l ++ [x]) = l ++ [x] := by
  induction l with
  | nil => simp [trimR, h]
  | cons y l ih => rw [List.cons_append, trimR_cons, ih]; simp
theorem trimR_zeros (l : List UInt8) (n : Nat) : trimR (l ++ List.replicate n 0) = trimR l := by
  induction n with
  | zero => simp
  | succ n ih => rw [List.replicate_succ', ← List.append_assoc, trimR_zero, ih]
theorem trimR_len (l : List UInt8) : (trimR l).length ≤ l.length := by
  induction l with
  | nil => simp [trimR]
  | cons x l ih =>
    rw [trimR_cons]
    split
    · split <;> simp
    · simp; omega
theorem trimR_is (l : List UInt8) : l = trimR l ++ List.replicate (l.length - (trimR l).length) 0 := by
  induction l with
  | nil => rfl
  | cons x l ih =>
    rw [trimR_cons]
    have hl := trimR_len l
    by_cases h : trimR l = []
    · rw [if_pos h]
      rw [h] at ih
      simp at ih
      by_cases hx : x = 0
      · rw [if_pos hx, hx, List.nil_append]
        conv => lhs; rw [ih]
        simp [List.replicate_succ]
      · rw [if_neg hx]
        conv => lhs; rw [ih]
        simp
    · rw [if_neg h]
      conv => lhs; rw [ih]
      simp
theorem trimR_getD (l : List UInt8) (i : Nat) : (trimR l).getD i 0 = l.getD i 0 := by
  conv => rhs; rw [trimR_is l]
  simp only [List.getD_eq_getElem?_getD, List.getElem?_append, List.getElem?_replicate]
  split
  · rfl
  · rename_i h
    rw [List.getElem?_eq_none (by omega)]
    split <;> rfl
theorem trimR_end (l : List UInt8) (h : trimR l ≠ []) : (trimR l).getLast h ≠ 0 := by
  induction l with
  | nil => exact absurd rfl h
  | cons x l ih =>
    by_cases hl : trimR l = []
    · by_cases hx : x = 0
      · exact absurd (by rw [trimR_cons, if_pos hl, if_pos hx]) h
      · have e : trimR (x :: l) = [x] := by rw [trimR_cons, if_pos hl, if_neg hx]
        simp only [e, List.getLast_singleton]
        exact hx
    · have e : trimR (x :: l) = x :: trimR l := by rw [trimR_cons, if_neg hl]
      simp only [e, List.getLast_cons hl]
      exact ih hl
theorem trimR_longer {l m : List UInt8} (h : ∀ i, l.getD i 0 = m.getD i 0) : (trimR m).length ≤ (trimR l).length := by
  rcases Nat.lt_or_ge (trimR l).length (trimR m).length with hlt | hge
  · exfalso
    have hne : trimR m ≠ [] := by intro e; rw [e] at hlt; simp at hlt
    refine trimR_end m hne ?_
    have h1 := h ((trimR m).length - 1)
    rw [← trimR_getD l, ← trimR_getD m] at h1
    rw [List.getLast_eq_getElem hne]
    have h2 : (trimR m).getD ((trimR m).length - 1) 0 = (trimR m)[(trimR m).length - 1]'(by omega) := by
      rw [List.getD_eq_getElem?_getD, List.getElem?_eq_getElem (by omega)]; rfl
    rw [← h2, ← h1, List.getD_eq_getElem?_getD, List.getElem?_eq_none (by omega)]
    rfl
  · exact hge
theorem trimR_iff (l m : List UInt8) : trimR l = trimR m ↔ ∀ i, l.getD i 0 = m.getD i 0 := by
  constructor
  · intro h i
    rw [← trimR_getD l, ← trimR_getD m, h]
  · intro h
    have hlen : (trimR l).length = (trimR m).length := Nat.le_antisymm (trimR_longer fun i => (h i).symm) (trimR_longer h)
    refine List.ext_getElem hlen fun i h1 h2 => ?_
    have := h i
    rw [← trimR_getD l, ← trimR_getD m, List.getD_eq_getElem?_getD, List.getD_eq_getElem?_getD, List.getElem?_eq_getElem h1, List.getElem?_eq_getElem h2] at this
    exact this

/-! A page's bytes. -/
def zsB (n : Nat) : List UInt8 := List.replicate n 0
theorem zsB_len (n : Nat) : (zsB n).length = n := by simp [zsB]
def padB (l : List UInt8) : List UInt8 := l ++ zsB (4080 - l.length)
theorem padB_len {l : List UInt8} (h : l.length ≤ 4080) : (padB l).length = 4080 := by unfold padB; rw [List.length_append, zsB_len]; omega
theorem padB_full {l : List UInt8} (h : l.length = 4080) : padB l = l := by unfold padB zsB; rw [h]; simp
theorem padB_trim (l : List UInt8) : trimR (padB l) = trimR l := trimR_zeros _ _
theorem padB_iff {l m : List UInt8} (hl : l.length ≤ 4080) (hm : m.length ≤ 4080) : padB l = padB m ↔ trimR l = trimR m := by
  constructor
  · intro h; rw [← padB_trim l, ← padB_trim m, h]
  · intro h
    rw [trimR_is (padB l), trimR_is (padB m), padB_trim, padB_trim, padB_len hl, padB_len hm, h]
def headB (k n : Nat) : List UInt8 := [84, 77, 1, UInt8.ofNat k] ++ (wordB 4 n ++ zsB 4)
theorem headB_len (k n : Nat) : (headB k n).length = 12 := by simp [headB, wordB_len, zsB_len]
/-- The sum of a page's bytes, with noughts in its place. -/
def sumB (l : List UInt8) : Nat := sumC (l.take 12 ++ zsB 4 ++ l.drop 16)
theorem sumB_lt (l : List UInt8) : sumB l < 4294967296 := sumC_lt _
def pageB (k n : Nat) (l : List UInt8) : List UInt8 := headB k n ++ (wordB 4 (sumC (headB k n ++ zsB 4 ++ padB l)) ++ padB l)
theorem pageB_len {k n : Nat} {l : List UInt8} (h : l.length ≤ 4080) : (pageB k n l).length = 4096 := by
  unfold pageB
  rw [List.length_append, List.length_append, headB_len, wordB_len, padB_len h]
/-- Bytes that are a page's. -/
def okB (l : List UInt8) : Prop := (l.length = 4096 ∧ l.take 3 = [84, 77, 1]) ∧ (1 ≤ (l.getD 3 0).toNat ∧ (l.getD 3 0).toNat ≤ 7) ∧ (l.drop 8).take 4 = zsB 4 ∧ (l.drop 12).take 4 = wordB 4 (sumB l)
instance (l : List UInt8) : Decidable (okB l) := by unfold okB; infer_instance
def kindB (l : List UInt8) : Nat := if okB l then (l.getD 3 0).toNat else 0
def numW (l : List UInt8) : Nat := wordN ((l.drop 4).take 4)
theorem numW_lt (l : List UInt8) : numW l < 4294967296 := by
  have h := wordN_lt ((l.drop 4).take 4)
  have h2 : ((l.drop 4).take 4).length ≤ 4 := by rw [List.length_take]; omega
  have h3 : 256 ^ ((l.drop 4).take 4).length ≤ 256 ^ 4 := Nat.pow_le_pow_right (by omega) h2
  unfold numW
  omega
theorem kindB_zero (l : List UInt8) : kindB l = 0 ↔ ¬ okB l := by
  unfold kindB
  by_cases h : okB l
  · rw [if_pos h]
    have := h.2.1.1
    constructor
    · intro e; omega
    · intro e; exact absurd h e
  · rw [if_neg h]; simp [h]
theorem kindB_ok {l : List UInt8} (h : okB l) : kindB l = (l.getD 3 0).toNat := if_pos h
theorem pageB_take (k n : Nat) (l : List UInt8) : (pageB k n l).take 12 = headB k n := by
  unfold pageB; exact List.take_left' (headB_len k n)
theorem pageB_drop12 (k n : Nat) (l : List UInt8) : (pageB k n l).drop 12 = wordB 4 (sumC (headB k n ++ zsB 4 ++ padB l)) ++ padB l := by
  unfold pageB; exact List.drop_left' (headB_len k n)
theorem pageB_drop (k n : Nat) (l : List UInt8) : (pageB k n l).drop 16 = padB l := by
  have : (pageB k n l).drop 16 = ((pageB k n l).drop 12).drop 4 := by rw [List.drop_drop]
  rw [this, pageB_drop12]
  exact List.drop_left' (wordB_len 4 _)
theorem pageB_sum (k n : Nat) (l : List UInt8) : sumB (pageB k n l) = sumC (headB k n ++ zsB 4 ++ padB l) := by
  unfold sumB; rw [pageB_take, pageB_drop]
theorem pageB_kind (k n : Nat) (l : List UInt8) (h : k < 256) : ((pageB k n l).getD 3 0).toNat = k := by
  unfold pageB headB
  simp
  omega
theorem wordN_four {n : Nat} (h : n < 4294967296) : wordN (wordB 4 n) = n := by rw [wordN_word]; omega
theorem wordB_four {l : List UInt8} (h : l.length = 4) : wordB 4 (wordN l) = l := by
  match l, h with
  | [a, b, c, d], _ =>
    have ha := a.toNat_lt
    have hb := b.toNat_lt
    have hc := c.toNat_lt
    have hd := d.toNat_lt
    simp only [wordN, wordB, List.cons.injEq, and_true]
    refine ⟨?_, ?_, ?_, ?_⟩ <;> apply UInt8.toNat_inj.1 <;> rw [u8n] <;> omega
theorem wordB_inj4 {a b : Nat} (ha : a < 4294967296) (hb : b < 4294967296) (h : wordB 4 a = wordB 4 b) : a = b := by
  rw [← wordN_four ha, ← wordN_four hb, h]
theorem pageB_num (k n : Nat) (l : List UInt8) (h : n < 4294967296) : numW (pageB k n l) = n := by
  have e : (pageB k n l).drop 4 = wordB 4 n ++ (zsB 4 ++ (wordB 4 (sumC (headB k n ++ zsB 4 ++ padB l)) ++ padB l)) := by
    unfold pageB headB
    simp
  unfold numW
  rw [e, List.take_left' (wordB_len 4 n), wordN_four h]
theorem pageB_ok {k n : Nat} {l : List UInt8} (h1 : 1 ≤ k) (h7 : k ≤ 7) (hl : l.length ≤ 4080) : okB (pageB k n l) := by
  refine ⟨⟨pageB_len hl, ?_⟩, by rw [pageB_kind k n l (by omega)]; omega, ?_, ?_⟩
  · unfold pageB headB; simp
  · have e : (pageB k n l).drop 8 = zsB 4 ++ (wordB 4 (sumC (headB k n ++ zsB 4 ++ padB l)) ++ padB l) := by
      have h8 : (wordB 4 n).length = 4 := wordB_len 4 n
      have : pageB k n l = ([84, 77, 1, UInt8.ofNat k] ++ wordB 4 n) ++ (zsB 4 ++ (wordB 4 (sumC (headB k n ++ zsB 4 ++ padB l)) ++ padB l)) := by
        unfold pageB headB; simp only [List.append_assoc]
      rw [this]
      exact List.drop_left' (by simp [wordB_len])
    rw [e]
    exact List.take_left' (zsB_len 4)
  · rw [pageB_drop12, pageB_sum]
    exact List.take_left' (wordB_len 4 _)
theorem getDb {l : List UInt8} {i : Nat} (h : i < l.length) : l.getD i 0 = l[i] := by simp [h]
theorem drop_takeb (l : List UInt8) (a b : Nat) : l.drop a = (l.drop a).take b ++ l.drop (a + b) := by
  rw [← List.drop_drop, List.take_append_drop]
theorem drop_one {l : List UInt8} {i : Nat} (h : i < l.length) : l.drop i = l.getD i 0 :: l.drop (i + 1) := by
  rw [getDb h]; exact List.drop_eq_getElem_cons h
theorem page_cut {l : List UInt8} (h : l.length = 4096) : l = l.take 3 ++ (l.getD 3 0 :: ((l.drop 4).take 4 ++ ((l.drop 8).take 4 ++ ((l.drop 12).take 4 ++ l.drop 16)))) := by
  have e1 := drop_takeb l 12 4
  have e2 := drop_takeb l 8 4
  have e3 := drop_takeb l 4 4
  have e4 := drop_one (l := l) (i := 3) (by omega)
  rw [← e1, ← e2, ← e3, ← e4, List.take_append_drop]
theorem take12 {l : List UInt8} (h : l.length = 4096) : l.take 12 = l.take 3 ++ (l.getD 3 0 :: ((l.drop 4).take 4 ++ (l.drop 8).take 4)) := by
  have hl : (l.take 3 ++ (l.getD 3 0 :: ((l.drop 4).take 4 ++ (l.drop 8).take 4))).length = 12 := by simp; omega
  have e : l = (l.take 3 ++ (l.getD 3 0 :: ((l.drop 4).take 4 ++ (l.drop 8).take 4))) ++ ((l.drop 12).take 4 ++ l.drop 16) := by
    conv => lhs; rw [page_cut h]
    simp only [List.append_assoc, List.cons_append]
  conv => lhs; rw [e]
  exact List.take_left' hl
theorem ofNat_toNat (x : UInt8) : UInt8.ofNat x.toNat = x := by simp
theorem okB_page {l : List UInt8} (h : okB l) : pageB (l.getD 3 0).toNat (numW l) (l.drop 16) = l := by
  obtain ⟨⟨hl, h3⟩, hk, hz, hs⟩ := h
  have hd : (l.drop 16).length = 4080 := by simp; omega
  have h4 : ((l.drop 4).take 4).length = 4 := by simp; omega
  have hh : headB (l.getD 3 0).toNat (numW l) = l.take 12 := by
    rw [take12 hl, h3, hz]
    unfold headB numW
    rw [wordB_four h4, ofNat_toNat]
    rfl
  unfold pageB
  rw [hh, padB_full hd]
  have : sumC (l.take 12 ++ zsB 4 ++ l.drop 16) = sumB l := rfl
  rw [this, ← hs, ← drop_takeb, List.take_append_drop]
/-- The document's own way: bytes are a page's if they are those of the page that they tell. -/
theorem okB_iff (l : List UInt8) : okB l ↔ l.length = 4096 ∧ (1 ≤ (l.getD 3 0).toNat ∧ (l.getD 3 0).toNat ≤ 7) ∧ pageB (l.getD 3 0).toNat (numW l) (l.drop 16) = l := by
  constructor
  · intro h
    exact ⟨h.1.1, h.2.1, okB_page h⟩
  · rintro ⟨hl, ⟨h1, h7⟩, he⟩
    have hd : (l.drop 16).length ≤ 4080 := by simp; omega
    have := pageB_ok (n := numW l) h1 h7 hd
    rw [he] at this
    exact this
/-- A byte changed changes the sum. -/
theorem sumC_set {l : List UInt8} {i : Nat} (hi : i < l.length) {y : UInt8} (h : sumC (l.set i y) = sumC l) : y = l[i] := by
  have e1 : l.set i y = l.take i ++ [y] ++ l.drop (i + 1) := by rw [List.set_eq_take_append_cons_drop, if_pos hi]; simp
  have e2 : l = l.take i ++ [l[i]] ++ l.drop (i + 1) := by simp
  rw [e1] at h
  conv at h => rhs; rw [e2]
  have := sumC_four (l := [y]) (m := [l[i]]) rfl (by simp) h
  injection this
theorem okB_turned {l : List UInt8} (h : okB l) {i : Nat} (hi : i < 4096) {y : UInt8} (hy : y ≠ l.getD i 0) : ¬ okB (l.set i y) := by
  intro h'
  obtain ⟨⟨hl, _⟩, _, _, hs⟩ := h
  obtain ⟨_, _, _, hs'⟩ := h'
  have hil : i < l.length := by omega
  rw [getDb hil] at hy
  by_cases hc : 12 ≤ i ∧ i < 16
  · have e1 : sumB (l.set i y) = sumB l := by
      unfold sumB
      rw [List.take_set_of_le (by omega), List.drop_set_of_lt (by omega)]
    rw [e1, ← hs, List.drop_set, if_neg (by omega)] at hs'
    have h1 : (((l.drop 12).set (i - 12) y).take 4)[i - 12]? = ((l.drop 12).take 4)[i - 12]? := by rw [hs']
    rw [List.getElem?_take_of_lt (by omega), List.getElem?_take_of_lt (by omega), List.getElem?_set_self (by simp; omega), List.getElem?_drop] at h1
    rw [show 12 + (i - 12) = i by omega, List.getElem?_eq_getElem hil] at h1
    exact hy (Option.some.inj h1)
  · have e0 : ((l.set i y).drop 12).take 4 = (l.drop 12).take 4 := by
      by_cases h12 : i < 12
      · rw [List.drop_set_of_lt h12]
      · rw [List.drop_set, if_neg h12, List.take_set_of_le (by omega)]
    rw [e0, hs] at hs'
    have e2 := wordB_inj4 (sumB_lt _) (sumB_lt _) hs'
    have hlen : i < (l.take 12 ++ zsB 4 ++ l.drop 16).length := by simp [zsB_len]; omega
    have e3 : (l.set i y).take 12 ++ zsB 4 ++ (l.set i y).drop 16 = (l.take 12 ++ zsB 4 ++ l.drop 16).set i y := by
      have ht : (l.take 12).length = 12 := by simp; omega
      have ht4 : (l.take 12 ++ zsB 4).length = 16 := by rw [List.length_append, ht, zsB_len]
      by_cases h12 : i < 12
      · rw [List.drop_set_of_lt (by omega), List.set_append_left _ _ (by rw [ht4]; omega), List.set_append_left _ _ (by rw [ht]; omega), List.take_set]
      · rw [List.take_set_of_le (by omega), List.drop_set, if_neg (by omega), List.set_append_right _ _ (by rw [ht4]; omega), ht4]
    have e4 : (l.take 12 ++ zsB 4 ++ l.drop 16)[i] = l[i] := by
      have h5 : (l.take 12 ++ zsB 4 ++ l.drop 16)[i]? = l[i]? := by
        have ht : (l.take 12).length = 12 := by simp; omega
        have ht4 : (l.take 12 ++ zsB 4).length = 16 := by rw [List.length_append, ht, zsB_len]
        by_cases h12 : i < 12
        · rw [List.getElem?_append_left (by rw [ht4]; omega), List.getElem?_append_left (by rw [ht]; omega), List.getElem?_take_of_lt h12]
        · rw [List.getElem?_append_right (by rw [ht4]; omega), ht4, List.getElem?_drop]
          congr 1
          omega
      rw [List.getElem?_eq_getElem hlen, List.getElem?_eq_getElem hil] at h5
      exact Option.some.inj h5
    unfold sumB at e2
    rw [e3] at e2
    exact hy ((sumC_set hlen e2.symm).trans e4)
/-- Pages of unlike parts have unlike bytes. -/
theorem pageB_iff {k n k' n' : Nat} {l l' : List UInt8} (hk : k < 256) (hk' : k' < 256) (hn : n < 4294967296) (hn' : n' < 4294967296) (hl : l.length ≤ 4080) (hl' : l'.length ≤ 4080) :
    pageB k n l = pageB k' n' l' ↔ k = k' ∧ n = n' ∧ trimR l = trimR l' := by
  constructor
  · intro h
    refine ⟨?_, ?_, ?_⟩
    · rw [← pageB_kind k n l hk, ← pageB_kind k' n' l' hk', h]
    · rw [← pageB_num k n l hn, ← pageB_num k' n' l' hn', h]
    · rw [← padB_iff hl hl', ← pageB_drop k n l, ← pageB_drop k' n' l', h]
  · rintro ⟨rfl, rfl, h⟩
    unfold pageB
    rw [(padB_iff hl hl').2 h]
end Go.Proofs.YtagchbpofoidmaaDoor
