/-
  Small facts that the laws of layer 5 share. Conditions: none.
-/
import Derived.Test.YtagchbpofoidmaaDoorPgG
import Derived.Test.YtagchbpofoidmaaDoorCrc2
import Derived.LaidMore
import Derived.Lay
import Derived.SevenTiedAt
import Derived.Stop.Joined
import Derived.Test.YtagchbpofoidmaaDoorTie
import Derived.Test.YtagchbpofoidmaaDoorCards
namespace Go.Proofs.YtagchbpofoidmaaDoor
open Go.RowKit Go.Maps
set_option maxRecDepth 100000

theorem byte_xor (x y : UInt8) : bits .xor .u8 (x.toNat : Int) (y.toNat : Int) = ((x ^^^ y).toNat : Int) := by
  rw [u8_xor_nat _ _ (byte_lt x) (byte_lt y), UInt8.toNat_xor]
/-- A row of the call's own that has bytes lies in a block. -/
theorem Own.at {w : World} {B : Nat} {e : TypeId} {v : Value} {l : List UInt8} (h : Own w B e v l) (hl : 0 < l.length) : ∃ g c, v = .slice (some ⟨g, 0, none⟩) l.length c ∧ B ≤ g ∧ g < w.heap.size ∧ l.length ≤ c ∧ c ≤ 9223372036854775807 := by
  rcases h.2 with ⟨_, e⟩ | ⟨g, cap, cur, rfl, hb, hg, h1, h2, _⟩
  · omega
  · unfold maxLen at h2
    exact ⟨g, cap, rfl, hb, (Array.getElem?_eq_some_iff.1 hg).1, h1, by omega⟩
theorem Own.set3o {w : World} {p B : Nat} {k n : Int} {A : Option Addr} {m c : Nat} (h : Box w p k n (.slice A m c)) (v0 v1 v2 : Value) {v : Value} {l : List UInt8} (hv : Own w B 5 v l) : Own (((w.setCell ⟨p, 0, none⟩ v0).setCell ⟨p, 1, none⟩ v1).setCell ⟨p, 2, none⟩ v2) B 5 v l := Own.set3 h v0 v1 v2 hv
theorem Box.set3 {w : World} {p q : Nat} {k n k' n' : Int} {vb vb' : Value} (h : Box w p k n vb) (_h' : Box w q k' n' vb') (hne : p ≠ q) (v0 v1 v2 : Value) : Box (((w.setCell ⟨q, 0, none⟩ v0).setCell ⟨q, 1, none⟩ v1).setCell ⟨q, 2, none⟩ v2) p k n vb := by
  unfold Box
  rw [heap_cell_other hne, heap_cell_other hne, heap_cell_other hne]
  exact h
theorem own_frozen {w : World} {B g n c : Nat} {e : TypeId} {l : List UInt8} (h : Own w B e (.slice (some ⟨g, 0, none⟩) n c) l) (hl : l.length = n) (j : Nat) : w.frozen? ⟨g, j, none⟩ = false := by
  unfold Own at h
  rw [hl] at h
  exact World.ownsRow.frozenAt h j
theorem xor0 (x : UInt8) : x ^^^ 0 = x := by simp
theorem xor_ne {x y : UInt8} (h : y ≠ 0) : x ^^^ y ≠ x := fun e => h (xor8_zero x y e)
theorem set_same {l : List UInt8} {i : Nat} : l.set i (l.getD i 0) = l := by
  by_cases h : i < l.length
  · rw [getDb h, List.set_getElem_self]
  · rw [List.set_eq_of_length_le (by omega)]
end Go.Proofs.YtagchbpofoidmaaDoor
