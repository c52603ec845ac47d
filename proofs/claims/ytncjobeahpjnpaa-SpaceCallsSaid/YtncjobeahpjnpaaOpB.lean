/-
  A slice of bools that came in, opened: what its cells hold. Conditions: none.
-/
import Derived.Test.YtncjobeahpjnpaaRowq
import Derived.Test.YtncjobeahpjnpaaOpen
import Derived.Deep.Slices
import Derived.Deep.Strs
namespace Go.Proofs.Ytncjobeahpjnpaa
open Go.ChangeShapes Go.WideShapes Go.ChangeAt Go.RowKit Go.Deep Go.Maps
set_option maxRecDepth 100000

theorem cellBool : Try.prog.cellsOf 4 = 1 := by kernel_rfl
theorem cellBools : Try.prog.cellsOf 22 = 1 := by kernel_rfl
section
variable {H : Type} {enc : TypeId × Value → H} {W : World}
theorem open_boolsF {fuel : Nat} {cs : List Value} {x : DataW H × List MemPlace} (h : DataW.trod enc Try.prog W 0 (fun _ => true) true fuel 22 cs = some x) : ∃ (vk : Value) (keep : List Bool), cs = [vk] ∧ Rowz W vk (keep.map Value.bool) := by
  rcases open_slice1 Try.underlying22 cellBool h with ⟨rfl, _⟩ | ⟨a, len, cap, m, n, V, D, Pl, rfl, _, hl, hm, hmm, _, hx⟩
  · exact ⟨_, [], rfl, Rowz.nil W⟩
  · have hmc : m = cap := by simpa using hmm
    subst hmc
    obtain ⟨f, hf⟩ := choose_lt (α := Bool) (n := len) (p := fun i b => W.cell? (a.add i) = some (.bool b)) (fun i hi => by
      obtain ⟨h1, h2⟩ := hx i (by omega)
      obtain ⟨b, hb, _⟩ := DataW.trod_bool Try.underlying4 h2
      injection hb with hb
      exact ⟨b, by rw [h1, hb]⟩)
    refine ⟨_, (List.range len).map f, rfl, some a, m, by simp, by simpa using hl, hm, ?_⟩
    by_cases h0 : len = 0
    · exact .inl (by simp [h0])
    · obtain ⟨b, off, spot⟩ := a
      have hc0 := hf 0 (by omega)
      have hspot : spot = none := by simpa [Addr.add] using World.cell?_spot hc0
      subst hspot
      refine .inr ⟨b, off, rfl, ?_, fun j hj => ?_⟩
      · rcases Nat.lt_or_ge b W.heap.size with h' | h'
        · exact h'
        · rw [plainAdd] at hc0
          simp [World.cell?, Array.getElem?_eq_none h'] at hc0
      · have hj' : j < len := by simpa using hj
        have := hf j hj'
        rw [plainAdd] at this
        rw [this]
        simp
end
end Go.Proofs.Ytncjobeahpjnpaa
