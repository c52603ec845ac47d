/-
  Package chain, plain: a byte changed changes just its page; the pages 2, 5, 8 ... Conditions: none.
-/
import Derived.Test.YtknagdbhhfelnaaDoorCCnL
namespace Go.Proofs.YtknagdbhhfelnaaDoor
open Go.RowKit Go.Maps
set_option maxRecDepth 100000

/-- 2, 5, 8 and so on. -/
def psN (n : Nat) : List Nat := (List.range n).map fun i => 2 + 3 * i
theorem psN_len (n : Nat) : (psN n).length = n := by simp [psN]
theorem psN_snoc (n : Nat) : psN (n + 1) = psN n ++ [2 + 3 * n] := by simp [psN, List.range_succ]
theorem psN_may (n : Nat) (h : n ≤ 1000000) : mayP (psN n) := by
  refine ⟨?_, ?_⟩
  · unfold psN
    rw [List.Nodup, List.pairwise_map]
    exact (List.nodup_range (n := n)).imp (fun h e => h (by omega))
  · intro x hx
    simp only [psN, List.mem_map, List.mem_range] at hx
    obtain ⟨i, hi, rfl⟩ := hx
    omega
theorem chunk_other (b : List UInt8) (K : Nat) (x : UInt8) {i : Nat} (h : i ≠ K / 4074) : chunkB (b.set K x) i = chunkB b i := by
  unfold chunkB
  apply List.ext_getElem?
  intro j
  simp only [List.getElem?_take, List.getElem?_drop]
  split
  · rw [List.getElem?_set_ne (by omega)]
  · rfl
theorem chunk_same (b : List UInt8) (K : Nat) (x : UInt8) (hK : K < b.length) (hx : x ≠ b[K]) : chunkB (b.set K x) (K / 4074) ≠ chunkB b (K / 4074) := by
  intro h
  have h1 := congrArg (fun l => l[K % 4074]?) h
  simp only [chunkB, List.getElem?_take, List.getElem?_drop] at h1
  have h2 : K % 4074 < 4074 := Nat.mod_lt _ (by decide)
  rw [if_pos h2, if_pos h2, show K / 4074 * 4074 + K % 4074 = K by omega, List.getElem?_set_self hK, List.getElem?_eq_getElem hK] at h1
  exact hx (by simpa using h1)
theorem link_inj {nx : Nat} {x y : List UInt8} {k n : Nat} (hx : x.length = y.length) (h : pageB k n (linkB nx x) = pageB k n (linkB nx y)) : x = y := by
  have h1 : ((pageB k n (linkB nx x)).drop 22).take x.length = ((pageB k n (linkB nx y)).drop 22).take x.length := by rw [h]
  rw [page_rest, page_rest, List.take_append_of_le_length (Nat.le_refl _), List.take_length, hx, List.take_append_of_le_length (Nat.le_refl _), List.take_length] at h1
  exact h1
theorem chunk_set_len (b : List UInt8) (K : Nat) (x : UInt8) (i : Nat) : (chunkB (b.set K x) i).length = (chunkB b i).length := by rw [chunk_len, chunk_len, List.length_set]
theorem chain_set (k : Nat) (ps : List Nat) (b : List UInt8) (K : Nat) (x : UInt8) (hK : K < b.length) (hx : x ≠ b[K]) (i : Nat) : chainB k ps b i = chainB k ps (b.set K x) i ↔ i ≠ K / 4074 := by
  unfold chainB
  constructor
  · rintro h rfl
    exact chunk_same b K x hK hx (link_inj (chunk_set_len b K x _).symm h).symm
  · intro h
    rw [chunk_other b K x h]
theorem xorC_ne {x y : UInt8} (h : y ≠ 0) : x ^^^ y ≠ x := by
  intro e
  have : x ^^^ (x ^^^ y) = x ^^^ x := by rw [e]
  rw [← UInt8.xor_assoc, UInt8.xor_self, UInt8.zero_xor] at this
  exact h this
end Go.Proofs.YtknagdbhhfelnaaDoor
