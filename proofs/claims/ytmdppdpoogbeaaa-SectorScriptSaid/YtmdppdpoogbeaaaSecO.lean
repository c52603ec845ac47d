/-
  Crashes and calls that came in, opened: what their cells hold. Conditions: none.
-/
import Derived.Test.YtmdppdpoogbeaaaSecN
import Derived.Test.YtmdppdpoogbeaaaOpen
import Derived.Deep.Slices
import Derived.Deep.Strs
namespace Go.Proofs.Ytmdppdpoogbeaaa
open Go.ChangeShapes Go.WideShapes Go.ChangeAt Go.RowKit Go.Deep Go.Maps

theorem cellBool : Try.prog.cellsOf 4 = 1 := by kernel_rfl
theorem cellInt : Try.prog.cellsOf 3 = 1 := by kernel_rfl
theorem cellByte : Try.prog.cellsOf 5 = 1 := by kernel_rfl
theorem cellBools : Try.prog.cellsOf 32 = 1 := by kernel_rfl
theorem cellCrash : Try.prog.cellsOf 34 = 3 := by kernel_rfl
section
variable {H : Type} {enc : TypeId × Value → H} {W : World}
theorem open_boolsF {fuel : Nat} {cs : List Value} {x : DataW H × List MemPlace} (h : DataW.trod enc Try.prog W 0 (fun _ => true) true fuel 32 cs = some x) : ∃ (vk : Value) (keep : List Bool), cs = [vk] ∧ Rowz W vk (keep.map Value.bool) := by
  rcases open_slice1 Try.underlying32 cellBool h with ⟨rfl, _⟩ | ⟨a, len, cap, m, n, V, D, Pl, rfl, _, hl, hm, hmm, _, hx⟩
  · exact ⟨_, [], rfl, Rowz.nil W⟩
  · have hmc : m = cap := by simpa using hmm
    subst hmc
    obtain ⟨f, hf⟩ := choose_lt (α := Bool) (n := len) (p := fun i b => W.cell? (a.add i) = some (.bool b)) (fun i hi => by
      obtain ⟨h1, h2⟩ := hx i (by omega)
      obtain ⟨b, hb, _⟩ := DataW.trod_bool Try.underlying4 h2
      injection hb with hb
      exact ⟨b, by rw [h1, hb]⟩)
    refine ⟨_, (List.range len).map f, rfl, some a, m, by simp, by simpa using hl, hm, ?_⟩
    by_cases h0 : len = 0
    · exact .inl (by simp [h0])
    · obtain ⟨b, off, spot⟩ := a
      have hc0 := hf 0 (by omega)
      have hspot : spot = none := by simpa [Addr.add] using World.cell?_spot hc0
      subst hspot
      refine .inr ⟨b, off, rfl, ?_, fun j hj => ?_⟩
      · rcases Nat.lt_or_ge b W.heap.size with h' | h'
        · exact h'
        · rw [plainAdd] at hc0
          simp [World.cell?, Array.getElem?_eq_none h'] at hc0
      · have hj' : j < len := by simpa using hj
        have := hf j hj'
        rw [plainAdd] at this
        rw [this]
        simp
theorem open_crashF {fuel : Nat} {cs : List Value} {x : DataW H × List MemPlace} (h : DataW.trod enc Try.prog W 0 (fun _ => true) true fuel 34 cs = some x) :
    ∃ (vk : Value) (keep : List Bool) (torn bytes : Int), cs = [vk, .int .i64 torn, .int .i64 bytes] ∧ Rowz W vk (keep.map Value.bool) ∧ (-9223372036854775808 ≤ torn ∧ torn ≤ 9223372036854775807) ∧ (-9223372036854775808 ≤ bytes ∧ bytes ≤ 9223372036854775807) := by
  obtain ⟨y0, y1, y2, n, _, hl, g0, g1, g2⟩ := trod_struct3 Try.underlying34 h
  rw [cellCrash] at hl
  simp only [cellBools, cellInt] at g0 g1 g2
  obtain ⟨vk, keep, e0, hk⟩ := open_boolsF g0
  obtain ⟨torn, e1, _, w1⟩ := DataW.trod_int Try.underlying3 g1
  obtain ⟨bytes, e2, _, w2⟩ := DataW.trod_int Try.underlying3 g2
  match cs, hl with
  | [c0, c1, c2], _ =>
    simp at e0 e1 e2
    subst e0 e1 e2
    exact ⟨c0, keep, torn, bytes, rfl, hk, open_i64 w1, open_i64 w2⟩
theorem open_crash {base : Nat} {v : Value} {d : DataW H} {p : List MemPlace}
    (hv : Value.okWide Try.prog W .any base 34 v) (h : DataW.Trod enc Try.prog W 0 (fun _ => true) true 34 v d p) :
    ∃ (vk : Value) (keep : List Bool) (torn bytes : Int), v = .agg (crashV vk torn bytes) ∧ Rowz W vk (keep.map Value.bool) ∧ (-9223372036854775808 ≤ torn ∧ torn ≤ 9223372036854775807) ∧ (-9223372036854775808 ≤ bytes ∧ bytes ≤ 9223372036854775807) := by
  obtain ⟨cs, rfl, _⟩ := okWide_struct Try.underlying34 hv
  obtain ⟨fuel, hf⟩ := h
  obtain ⟨vk, keep, torn, bytes, e, hk, b1, b2⟩ := open_crashF hf
  refine ⟨vk, keep, torn, bytes, ?_, hk, b1, b2⟩
  simp [Value.cells] at e
  obtain ⟨l⟩ := cs
  simp at e
  subst e
  rfl
end
end Go.Proofs.Ytmdppdpoogbeaaa
