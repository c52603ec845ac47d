/-
  Package chain, plain: how many pages, a page's part, a link's body, what a page tells, what is read. Conditions: none.
-/
import Derived.Test.YtknagdbhhfelnaaDoorMg5
namespace Go.Proofs.YtknagdbhhfelnaaDoor
open Go.RowKit Go.Maps
set_option maxRecDepth 100000

def needN (n : Nat) : Nat := (max n 1 - 1) / 4074 + 1
def chunkB (b : List UInt8) (i : Nat) : List UInt8 := (b.drop (i * 4074)).take 4074
/-- A link's body: the next page, how many bytes, the bytes. -/
def linkB (next : Nat) (x : List UInt8) : List UInt8 := wordB 4 next ++ (wordB 2 x.length ++ x)
/-- The page at a place of a chain. -/
def chainB (k : Nat) (ps : List Nat) (b : List UInt8) (i : Nat) : List UInt8 := pageB k i (linkB (ps.getD (i + 1) 0) (chunkB b i))
def lenOk (len place next : Nat) : Bool := if next ≠ 0 then decide (len = 4074) else if 0 < place ∧ len = 0 then false else decide (len ≤ 4074)
def nextN (x : List UInt8) : Nat := wordN ((x.drop 16).take 4)
def sizeN (x : List UInt8) : Nat := wordN ((x.drop 20).take 2)
/-- What a page tells at a place of a chain. -/
def toldOk (x : List UInt8) (k place : Nat) : Prop := (okB x ∧ (x.getD 3 0).toNat = k ∧ numW x = place) ∧ nextN x ≠ 1 ∧ lenOk (sizeN x) place (nextN x) = true ∧ trimR (x.drop (22 + sizeN x)) = []
open Classical in
noncomputable def toldB (x : List UInt8) (k place : Nat) : Option (Nat × List UInt8) := if toldOk x k place then some (nextN x, (x.drop 22).take (sizeN x)) else none
/-- What is read from a page on: f more pages may come. -/
noncomputable def readT (has : Nat → List UInt8) (k : Nat) : Nat → List Nat → List UInt8 → Nat → Option (List UInt8 × List Nat)
  | 0, ps, b, n => if n = 0 then some (b, ps) else none
  | f + 1, ps, b, n => if n = 0 then some (b, ps) else match toldB (has n) k ps.length with
    | none => none
    | some (nx, x) => if nx ∈ ps ++ [n] then none else readT has k f (ps ++ [n]) (b ++ x) nx

theorem needN_pos (n : Nat) : 1 ≤ needN n := Nat.le_add_left _ _
theorem needN_up {n : Nat} : n ≤ needN n * 4074 := by unfold needN; omega
theorem needN_lo {n : Nat} (h : 0 < n) : (needN n - 1) * 4074 < n := by unfold needN; omega
theorem needN_zero : needN 0 = 1 := rfl
theorem needN_more {n : Nat} (h : 0 < n) : needN (n + 4074) = needN n + 1 := by unfold needN; omega
theorem needN_le {n k : Nat} (h : n ≤ k * 4074) (hk : 1 ≤ k) : needN n ≤ k := by unfold needN; omega
theorem chunk_len (b : List UInt8) (i : Nat) : (chunkB b i).length = min 4074 (b.length - i * 4074) := by simp [chunkB, List.length_take, List.length_drop]
theorem chunk_le (b : List UInt8) (i : Nat) : (chunkB b i).length ≤ 4074 := by rw [chunk_len]; omega
theorem linkB_len (n : Nat) (x : List UInt8) : (linkB n x).length = 6 + x.length := by
  unfold linkB
  rw [List.length_append, List.length_append, wordB_len, wordB_len]
  omega
theorem link_le (n : Nat) (b : List UInt8) (i : Nat) : (linkB n (chunkB b i)).length ≤ 4080 := by rw [linkB_len]; have := chunk_le b i; omega
theorem chainB_len (k : Nat) (ps : List Nat) (b : List UInt8) (i : Nat) : (chainB k ps b i).length = 4096 := pageB_len (link_le _ _ _)
theorem take_chunk (b : List UInt8) (i : Nat) : b.take (i * 4074) ++ chunkB b i = b.take ((i + 1) * 4074) := by
  unfold chunkB
  rw [show (i + 1) * 4074 = i * 4074 + 4074 by omega, List.take_add]
/-- What stands in a chain's page. -/
theorem linkB_next (n : Nat) (x : List UInt8) : ∀ z, ((linkB n x ++ z).take 4) = wordB 4 n := fun z => by
  unfold linkB
  rw [List.append_assoc, List.take_append_of_le_length (by rw [wordB_len]; omega), List.take_of_length_le (by rw [wordB_len]; omega)]
theorem linkB_size (n : Nat) (x : List UInt8) : ∀ z, (((linkB n x ++ z).drop 4).take 2) = wordB 2 x.length := fun z => by
  unfold linkB
  rw [List.append_assoc, List.drop_append_of_le_length (by rw [wordB_len]; omega), List.drop_of_length_le (by rw [wordB_len]; omega), List.nil_append, List.append_assoc, List.take_append_of_le_length (by rw [wordB_len]; omega), List.take_of_length_le (by rw [wordB_len]; omega)]
theorem linkB_rest (n : Nat) (x : List UInt8) : ∀ z, (linkB n x ++ z).drop 6 = x ++ z := fun z => by
  unfold linkB
  rw [show wordB 4 n ++ (wordB 2 x.length ++ x) ++ z = (wordB 4 n ++ wordB 2 x.length) ++ (x ++ z) by simp [List.append_assoc]]
  rw [List.drop_append_of_le_length (by rw [List.length_append, wordB_len, wordB_len]; omega), List.drop_of_length_le (by rw [List.length_append, wordB_len, wordB_len]; omega), List.nil_append]
theorem page_nextN (k n nx : Nat) (x : List UInt8) (h : nx < 4294967296) : nextN (pageB k n (linkB nx x)) = nx := by
  unfold nextN
  rw [pageB_drop]
  unfold padB
  rw [linkB_next, wordN_four h]
theorem wordN_two {n : Nat} (h : n < 65536) : wordN (wordB 2 n) = n := by rw [wordN_word]; omega
theorem page_sizeN (k n nx : Nat) (x : List UInt8) (h : x.length < 65536) : sizeN (pageB k n (linkB nx x)) = x.length := by
  unfold sizeN
  rw [show (20 : Nat) = 16 + 4 from rfl, ← List.drop_drop, pageB_drop]
  unfold padB
  rw [linkB_size, wordN_two h]
theorem page_rest (k n nx : Nat) (x : List UInt8) : (pageB k n (linkB nx x)).drop 22 = x ++ zsB (4080 - (linkB nx x).length) := by
  rw [show (22 : Nat) = 16 + 6 from rfl, ← List.drop_drop, pageB_drop]
  unfold padB
  rw [linkB_rest]
theorem trimR_zs (n : Nat) : trimR (zsB n) = [] := by
  have := trimR_zeros [] n
  rw [List.nil_append] at this
  exact this
/-- A chain's own page is told. -/
theorem told_link {k n nx : Nat} {x : List UInt8} (h1 : 1 ≤ k) (h7 : k ≤ 7) (hn : n < 4294967296) (hnx : nx < 4294967296) (hn1 : nx ≠ 1) (hx : x.length ≤ 4074) (hl : lenOk x.length n nx = true) : toldB (pageB k n (linkB nx x)) k n = some (nx, x) := by
  have hll : (linkB nx x).length ≤ 4080 := by rw [linkB_len]; omega
  unfold toldB
  rw [if_pos, page_nextN _ _ _ _ hnx, page_sizeN _ _ _ _ (by omega), page_rest]
  · rw [List.take_append_of_le_length (Nat.le_refl _), List.take_length]
  · refine ⟨⟨pageB_ok h1 h7 hll, pageB_kind _ _ _ (by omega), pageB_num _ _ _ hn⟩, ?_, ?_, ?_⟩
    · rw [page_nextN _ _ _ _ hnx]; exact hn1
    · rw [page_sizeN _ _ _ _ (by omega), page_nextN _ _ _ _ hnx]; exact hl
    · rw [page_sizeN _ _ _ _ (by omega), ← List.drop_drop, page_rest, List.drop_append_of_le_length (Nat.le_refl _), List.drop_length, List.nil_append]
      exact trimR_zs _
theorem told_some {x : List UInt8} {k place nx : Nat} {y : List UInt8} (h : toldB x k place = some (nx, y)) : toldOk x k place ∧ nx = nextN x ∧ y = (x.drop 22).take (sizeN x) := by
  unfold toldB at h
  split at h
  · rename_i ho
    cases h
    exact ⟨ho, rfl, rfl⟩
  · cases h
theorem told_pos {x : List UInt8} {k place : Nat} (h : toldOk x k place) : toldB x k place = some (nextN x, (x.drop 22).take (sizeN x)) := if_pos h
theorem told_neg {x : List UInt8} {k place : Nat} (h : ¬ toldOk x k place) : toldB x k place = none := if_neg h
theorem toldOk_size {x : List UInt8} {k place : Nat} (h : toldOk x k place) : sizeN x ≤ 4074 ∧ x.length = 4096 ∧ ((x.drop 22).take (sizeN x)).length = sizeN x := by
  obtain ⟨⟨ho, _⟩, _, hl, _⟩ := h
  have hlen : x.length = 4096 := ho.1.1
  have hs : sizeN x ≤ 4074 := by
    unfold lenOk at hl
    split at hl
    · have := of_decide_eq_true hl; omega
    · split at hl
      · cases hl
      · exact of_decide_eq_true hl
  refine ⟨hs, hlen, ?_⟩
  rw [List.length_take, List.length_drop]
  omega
theorem nextN_lt (x : List UInt8) : nextN x < 4294967296 := by
  unfold nextN
  have h := wordN_lt ((x.drop 16).take 4)
  have hl : ((x.drop 16).take 4).length ≤ 4 := List.length_take_le _ _
  refine Nat.lt_of_lt_of_le h ?_
  calc 256 ^ ((x.drop 16).take 4).length ≤ 256 ^ 4 := Nat.pow_le_pow_right (by decide) hl
    _ = 4294967296 := by decide
theorem sizeN_lt (x : List UInt8) : sizeN x < 65536 := by
  unfold sizeN
  have h := wordN_lt ((x.drop 20).take 2)
  have hl : ((x.drop 20).take 2).length ≤ 2 := List.length_take_le _ _
  refine Nat.lt_of_lt_of_le h ?_
  calc 256 ^ ((x.drop 20).take 2).length ≤ 256 ^ 2 := Nat.pow_le_pow_right (by decide) hl
    _ = 65536 := by decide
end Go.Proofs.YtknagdbhhfelnaaDoor
