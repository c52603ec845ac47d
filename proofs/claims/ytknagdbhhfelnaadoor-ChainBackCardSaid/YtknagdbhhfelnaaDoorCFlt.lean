/-
  Rows of structs as lists of cells: one behind the other; made, cleared, one of them written, loaded. Conditions: each has as many cells.
-/
import Derived.Test.YtknagdbhhfelnaaDoorCZer
import Derived.Laws.MakeOwn
namespace Go.Proofs.YtknagdbhhfelnaaDoor
open Go.RowKit Go.Maps
set_option maxRecDepth 100000

section
variable {α : Type} {m : Nat} {g : α → List Value} (hg : ∀ x, (g x).length = m)
include hg
theorem fm_len : ∀ l : List α, (l.flatMap g).length = l.length * m
  | [] => by simp
  | x :: l => by rw [List.flatMap_cons, List.length_append, hg, fm_len l, List.length_cons, Nat.add_mul]; omega
theorem fm_get : ∀ (l : List α) (i : Nat) (hi : i < l.length) (j : Nat), j < m → (l.flatMap g)[i * m + j]? = (g l[i])[j]?
  | x :: l, 0, hi, j, hj => by
    rw [List.flatMap_cons, List.getElem?_append_left (by rw [hg]; omega)]
    simp
  | x :: l, i + 1, hi, j, hj => by
    rw [List.flatMap_cons, List.getElem?_append_right (by rw [hg, Nat.add_mul]; omega)]
    have := fm_get l i (by simpa using hi) j hj
    rw [hg, show (i + 1) * m + j - m = i * m + j by rw [Nat.add_mul]; omega, this]
    simp
theorem fm_put (hm : 0 < m) (l : List α) (i : Nat) (hi : i < l.length) (y : α) : putAll (l.flatMap g).toArray (i * m) (g y) = ((l.set i y).flatMap g).toArray := by
  apply Array.ext_getElem?
  intro q
  have hq : q = q / m * m + q % m := by rw [Nat.mul_comm]; exact (Nat.div_add_mod q m).symm
  have hr : q % m < m := Nat.mod_lt _ hm
  have hlen := fm_len hg l
  rw [putAll_get, List.getElem?_toArray, List.getElem?_toArray, hg, List.size_toArray, hlen]
  have him : i * m + m ≤ l.length * m := by
    have := Nat.mul_le_mul_right m (show i + 1 ≤ l.length from hi)
    rw [Nat.add_mul] at this
    omega
  by_cases e : q / m = i
  · have h1 : i * m ≤ q ∧ q < i * m + m ∧ q < l.length * m := by rw [← e]; rw [← e] at him; omega
    rw [if_pos h1]
    have := fm_get hg (l.set i y) i (by rw [List.length_set]; exact hi) (q - i * m) (by omega)
    rw [show i * m + (q - i * m) = q by omega, List.getElem_set_self] at this
    exact this.symm
  · have h1 : ¬ (i * m ≤ q ∧ q < i * m + m ∧ q < l.length * m) := by
      rintro ⟨h1, h2, _⟩
      apply e
      have h3 : i * m + (q - i * m) = q := by omega
      have h4 : q - i * m < m := by omega
      generalize q - i * m = r at *
      rw [← h3, Nat.mul_comm i m, Nat.mul_add_div hm, Nat.div_eq_of_lt h4]
      omega
    rw [if_neg h1]
    by_cases hl : q / m < l.length
    · have a := fm_get hg l (q / m) hl (q % m) hr
      have b := fm_get hg (l.set i y) (q / m) (by rw [List.length_set]; exact hl) (q % m) hr
      rw [← hq] at a b
      rw [a, b, List.getElem_set_ne (fun h => e h.symm)]
    · have hge : l.length * m ≤ q := by
        have := Nat.mul_le_mul_right m (show l.length ≤ q / m by omega)
        omega
      rw [List.getElem?_eq_none (by omega), List.getElem?_eq_none (by rw [fm_len hg, List.length_set]; omega)]
theorem fm_made (hm : 0 < m) (z : α) (n : Nat) : ((Array.range (n * m)).map ((g z).toArray[· % (g z).toArray.size]!)).toList = (List.replicate n z).flatMap g := by
  apply List.ext_getElem?
  intro q
  have hs : (g z).toArray.size = m := by rw [List.size_toArray, hg]
  have hr : q % m < m := Nat.mod_lt _ hm
  have hq : q = q / m * m + q % m := by rw [Nat.mul_comm]; exact (Nat.div_add_mod q m).symm
  by_cases h : q < n * m
  · have hl : q / m < n := (Nat.div_lt_iff_lt_mul hm).2 h
    have a := fm_get hg (List.replicate n z) (q / m) (by rw [List.length_replicate]; exact hl) (q % m) hr
    rw [← hq, List.getElem_replicate] at a
    rw [a, Array.getElem?_toList, Array.getElem?_map, Array.getElem?_range, if_pos h]
    rw [Option.map_some, hs]
    rw [getElem!_pos _ _ (by rw [hs]; exact hr)]
    simp [List.getElem?_eq_getElem (show q % m < (g z).length by rw [hg]; exact hr)]
  · rw [List.getElem?_eq_none (by simp; omega), List.getElem?_eq_none (by rw [fm_len hg, List.length_replicate]; omega)]
end
/-- A row that was just made, whole. -/
theorem own_row {w : World} {B g n k : Nat} {e : TypeId} {xs : List Value} (h : w.ownsRow B e k (.slice (some ⟨g, 0, none⟩) n n) n xs) : w.heap[g]? = some (.cells xs.toArray e (0, 0)) := by
  rcases h.2 with ⟨e, _⟩ | ⟨g', cap, cur, e, hb, hr, h1, h2, h3, h4⟩
  · cases e
  · injection e with e1 _ e3
    injection e1 with e1
    injection e1 with e1 _ _
    subst e1 e3
    rw [hr]
    congr 2
    rw [← h4, List.take_of_length_le (by rw [Array.length_toList]; omega)]
end Go.Proofs.YtknagdbhhfelnaaDoor
