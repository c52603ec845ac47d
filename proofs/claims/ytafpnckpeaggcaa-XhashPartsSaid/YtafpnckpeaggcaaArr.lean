/-
  An array of words in a block of its own. Conditions: none.
-/
import Derived.Test.YtafpnckpeaggcaaHx2
namespace Go.Proofs.Ytafpnckpeaggcaa
open Go.RowKit

/-- Block g is an array of these words. -/
def Arr (w : World) (g : Nat) (acc : List Nat) : Prop := w.heap[g]? = some (.cells (acc.map fun (n : Nat) => Value.int .u64 (n : Int)).toArray 39)

theorem Arr.lt {w : World} {g : Nat} {acc : List Nat} (h : Arr w g acc) : g < w.heap.size := by
  rcases Nat.lt_or_ge g w.heap.size with hlt | hge
  · exact hlt
  · unfold Arr at h; rw [Array.getElem?_eq_none hge] at h; cases h
theorem Arr.cell {w : World} {g : Nat} {acc : List Nat} (h : Arr w g acc) (k : Nat) (hk : k < acc.length) : w.cell? ⟨g, k, none⟩ = some (.int .u64 (acc.getD k 0 : Int)) := by
  rw [cell_of_row _ _ _ _ _ _ h]
  simp [hk]
theorem Arr.frozen {w : World} {g : Nat} {acc : List Nat} (h : Arr w g acc) (k : Nat) : w.frozen? ⟨g, k, none⟩ = false := by
  unfold Arr at h
  simp [World.frozen?, h]
theorem Arr.set {w : World} {g : Nat} {acc : List Nat} (h : Arr w g acc) (k x : Nat) : Arr (w.setCell ⟨g, k, none⟩ (.int .u64 (x : Int))) g (acc.set k x) := by
  unfold Arr at h ⊢
  simp [World.setCell, Array.getElem?_modify, h, List.map_set]
theorem Arr.block {w w' : World} {g : Nat} {acc : List Nat} (h : Arr w g acc) (hb : w'.heap[g]? = w.heap[g]?) : Arr w' g acc := hb.trans h
theorem Arr.notByte {w : World} {g : Nat} {acc : List Nat} (h : Arr w g acc) : ¬ ∃ off u, w.cell? ⟨g, off, none⟩ = some (.int .u8 u) := by
  rintro ⟨off, u, hc⟩
  rw [cell_of_row _ _ _ _ _ _ h] at hc
  simp at hc
theorem Byt.arr {w : World} {v : Value} {l : List UInt8} {g : Nat} {acc : List Nat} (h : Byt w v l) (ha : Arr w g acc) (k : Nat) (u : Value) : Byt (w.setCell ⟨g, k, none⟩ u) v l :=
  h.keep (by simp [World.setCell]) fun b _ hex => Below.heap_setCell _ _ _ _ (by rintro rfl; exact ha.notByte hex)
theorem Rdr.arr {w : World} {g g' e : Nat} {l : List UInt8} {acc : List Nat} (h : Rdr w g l e) (ha : Arr w g' acc) (hne : g ≠ g') (k : Nat) (u : Value) : Rdr (w.setCell ⟨g', k, none⟩ u) g l e := by
  obtain ⟨A, c, h1, h2⟩ := h
  exact ⟨A, c, (Below.heap_setCell _ _ _ _ (by simp only; omega)).trans h1, h2.arr ha k u⟩
end Go.Proofs.Ytafpnckpeaggcaa
