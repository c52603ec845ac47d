/-
  Package chain, plain: what was written is read; pages lead to the pool's pages alone. Conditions: none.
-/
import Derived.Test.YtknagdbhhfelnaaDoorCCnJ
namespace Go.Proofs.YtknagdbhhfelnaaDoor
open Go.RowKit Go.Maps
set_option maxRecDepth 100000

section
variable {k : Nat} {ps : List Nat} {b : List UInt8} (hk : k = 2 ∨ k = 3 ∨ k = 7) (hm : mayP ps) (hl : ps.length = needN b.length) (hs : ps.length ≤ 1073741824)
theorem getD_may (hm : mayP ps) {i : Nat} (h : i < ps.length) : 2 ≤ ps.getD i 0 ∧ ps.getD i 0 ≤ 4294967295 := by
  rw [getD_lt h]
  exact hm.2 _ (List.getElem_mem h)
where getD_lt {ps : List Nat} {i : Nat} (h : i < ps.length) : ps.getD i 0 = ps[i] := by rw [List.getD_eq_getElem?_getD, List.getElem?_eq_getElem h]; rfl
theorem getD_end {ps : List Nat} {i : Nat} (h : ps.length ≤ i) : ps.getD i 0 = 0 := by rw [List.getD_eq_getElem?_getD, List.getElem?_eq_none h]; rfl
theorem next_ne (hm : mayP ps) (i : Nat) : ps.getD i 0 ≠ 1 ∧ ps.getD i 0 < 4294967296 := by
  by_cases h : i < ps.length
  · have := getD_may hm h; omega
  · rw [getD_end (by omega)]; omega
include hk hm hl hs in
theorem told_chain {i : Nat} (hi : i < ps.length) : toldB (chainB k ps b i) k i = some (ps.getD (i + 1) 0, chunkB b i) := by
  have hn := next_ne hm (i + 1)
  refine told_link (by omega) (by omega) (by omega) hn.2 hn.1 (chunk_le _ _) ?_
  unfold lenOk
  by_cases h1 : i + 1 < ps.length
  · have h2 := getD_may hm h1
    have hb : 0 < b.length := by
      rcases Nat.eq_zero_or_pos b.length with h | h
      · rw [h, needN_zero] at hl; omega
      · exact h
    have hlo := needN_lo hb
    rw [if_pos (by omega), decide_eq_true_eq, chunk_len]
    have : (i + 1) * 4074 ≤ (needN b.length - 1) * 4074 := Nat.mul_le_mul_right _ (by omega)
    omega
  · rw [getD_end (by omega), if_neg (by omega)]
    have hc := chunk_le b i
    by_cases h0 : 0 < i
    · have hb : 0 < b.length := by
        rcases Nat.eq_zero_or_pos b.length with h | h
        · rw [h, needN_zero] at hl; omega
        · exact h
      have hlo := needN_lo hb
      have he : i = needN b.length - 1 := by omega
      rw [← he] at hlo
      rw [if_neg (fun h => by have := h.2; rw [chunk_len] at this; omega), decide_eq_true_eq]
      exact hc
    · rw [if_neg (fun h => h0 h.1), decide_eq_true_eq]
      exact hc
include hk hm hl hs in
theorem read_chain {has : Nat → List UInt8} (hh : ∀ i, i < ps.length → has (ps.getD i 0) = chainB k ps b i) : ∀ j i f, i + j = ps.length → readT has k f (ps.take i) (b.take (i * 4074)) (ps.getD i 0) = if j ≤ f then some (b, ps) else none := by
  intro j
  induction j with
  | zero =>
    intro i f hij
    have hi : i = ps.length := by omega
    subst hi
    rw [getD_end (Nat.le_refl _), List.take_length, List.take_of_length_le (by rw [hl]; exact needN_up), if_pos (Nat.zero_le _)]
    cases f <;> simp [readT]
  | succ j ih =>
    intro i f hij
    have hi : i < ps.length := by omega
    have h2 := getD_may hm hi
    cases f with
    | zero =>
      rw [if_neg (by omega)]
      simp only [readT]
      rw [if_neg (by omega)]
    | succ f =>
      have htl : (ps.take i).length = i := by rw [List.length_take]; omega
      have htk : ps.take i ++ [ps.getD i 0] = ps.take (i + 1) := by rw [getD_may.getD_lt hi, List.take_succ_eq_append_getElem hi]
      have hnot : ps.getD (i + 1) 0 ∉ ps.take (i + 1) := by
        intro hmem
        by_cases h1 : i + 1 < ps.length
        · rw [getD_may.getD_lt h1] at hmem
          have hnd : (ps.take (i + 2)).Nodup := hm.1.sublist (List.take_sublist _ _)
          rw [List.take_succ_eq_append_getElem h1, List.nodup_append] at hnd
          exact hnd.2.2 _ hmem _ (List.mem_singleton.2 rfl) rfl
        · rw [getD_end (by omega)] at hmem
          have := (hm.2 _ (List.mem_of_mem_take hmem)).1
          omega
      simp only [readT]
      rw [if_neg (by omega), hh i hi, htl, told_chain hk hm hl hs hi, htk]
      simp only
      rw [if_neg hnot, take_chunk, ih (i + 1) f (by omega)]
      by_cases h : j ≤ f
      · rw [if_pos h, if_pos (by omega)]
      · rw [if_neg h, if_neg (by omega)]
include hk hm hl hs in
/-- What was written is read. -/
theorem read_back {has : Nat → List UInt8} (hh : ∀ i, i < ps.length → has (ps.getD i 0) = chainB k ps b i) (f : Nat) : readT has k f [] [] (ps.getD 0 0) = if ps.length ≤ f then some (b, ps) else none := by
  have := read_chain hk hm hl hs hh ps.length 0 f (by omega)
  rw [Nat.zero_mul, List.take_zero, List.take_zero] at this
  exact this
include hk hm hl in
/-- Of another Kind it is not. -/
theorem read_other {has : Nat → List UInt8} (hh : ∀ i, i < ps.length → has (ps.getD i 0) = chainB k ps b i) (k' : Nat) (hne : k' ≠ k) (f : Nat) : readT has k' f [] [] (ps.getD 0 0) = none := by
  have hp : 0 < ps.length := by rw [hl]; exact needN_pos _
  have h2 := getD_may hm hp
  cases f with
  | zero => simp only [readT]; rw [if_neg (by omega)]
  | succ f =>
    simp only [readT]
    rw [if_neg (by omega), hh 0 hp, told_neg]
    intro h
    have := h.1.2.1
    unfold chainB at this
    rw [pageB_kind _ _ _ (by omega)] at this
    omega
include hm in
theorem chain_next (i : Nat) : nextN (chainB k ps b i) = ps.getD (i + 1) 0 := page_nextN _ _ _ _ (next_ne hm _).2
end
/-- Each page leads to the pool's pages alone, or is none. -/
def Sane (has : Nat → List UInt8) (n : Nat) : Prop := ∀ x, x < n → ¬ okB (has x) ∨ nextN (has x) < n
theorem Sane.closed {has : Nat → List UInt8} {n : Nat} (h : Sane has n) (k : Nat) : Closed has k n := fun x place nx y hx ht => by
  obtain ⟨h1, h2, _⟩ := told_some ht
  rcases h x hx with h3 | h3
  · exact absurd h1.1.1 h3
  · omega
theorem zero_bad : ¬ okB (List.replicate 4096 (0 : UInt8)) := fun h => by
  have := h.1.2
  rw [show List.replicate 4096 (0 : UInt8) = 0 :: List.replicate 4095 0 from rfl] at this
  simp at this
theorem Sane.zero (n : Nat) : Sane (fun _ => List.replicate 4096 0) n := fun _ _ => .inl zero_bad
theorem Sane.wrote {has : Nat → List UInt8} {n : Nat} (h : Sane has n) {k : Nat} {ps : List Nat} {b : List UInt8} (hm : mayP ps) (hn : ∀ x ∈ ps, x < n) (h0 : 0 < n) : Sane (wroteH has k ps b) n := fun x hx => by
  by_cases hin : x ∈ ps
  · obtain ⟨i, hi, rfl⟩ := List.getElem_of_mem hin
    right
    rw [wrote_in _ _ _ _ hm.1 i hi, chain_next hm]
    by_cases h1 : i + 1 < ps.length
    · rw [getD_may.getD_lt h1]; exact hn _ (List.getElem_mem h1)
    · rw [getD_end (by omega)]; exact h0
  · rw [wrote_out _ _ _ _ _ hin]
    exact h x hx
theorem wrote_get (has : Nat → List UInt8) (k : Nat) (ps : List Nat) (b : List UInt8) (hn : ps.Nodup) : ∀ i, i < ps.length → wroteH has k ps b (ps.getD i 0) = chainB k ps b i := fun i hi => by
  rw [getD_may.getD_lt hi]
  exact wrote_in has k ps b hn i hi
theorem read_zero (k f n : Nat) (h : n ≠ 0) (has : Nat → List UInt8) (hz : has n = List.replicate 4096 0) : readT has k f [] [] n = none := by
  cases f with
  | zero => simp only [readT]; rw [if_neg h]
  | succ f =>
    simp only [readT]
    rw [if_neg h, hz, told_neg]
    intro h
    exact zero_bad h.1.1
end Go.Proofs.YtknagdbhhfelnaaDoor
