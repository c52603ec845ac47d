/-
  A page that came in, opened: what its cells hold. Conditions: none.
-/
import Derived.Test.YtagchbpofoidmaaDoorPgF
import Derived.Deep.Slices
import Derived.Deep.Strs
namespace Go.Proofs.YtagchbpofoidmaaDoor
open Go.ChangeShapes Go.WideShapes Go.ChangeAt Go.RowKit Go.Deep Go.Maps
set_option maxRecDepth 100000

theorem cellP0 : Tryd.prog.cellsOf 3 = 1 := by kernel_rfl
theorem cellP1 : Tryd.prog.cellsOf 26 = 1 := by kernel_rfl
theorem cellP2 : Tryd.prog.cellsOf 22 = 1 := by kernel_rfl
theorem cellPage : Tryd.prog.cellsOf 28 = 3 := by kernel_rfl
section
variable {H : Type} {enc : TypeId × Value → H} {W : World}
theorem open_bytesF {fuel : Nat} {cs : List Value} {x : DataW H × List MemPlace} (h : DataW.trod enc Tryd.prog W 0 (fun _ => true) true fuel 22 cs = some x) : ∃ (v : Value) (l : List UInt8), cs = [v] ∧ Byt W v l := by
  obtain ⟨d, p⟩ := x
  rcases open_ints Tryd.underlying22 Tryd.underlying5 (by kernel_rfl) h with ⟨hcs, _⟩ | ⟨a, len, cap, zs, hcs, _⟩
  · exact ⟨_, [], hcs, Byt.nil W⟩
  · subst hcs
    obtain ⟨l, hl⟩ := open_bytesV h
    exact ⟨_, l, rfl, hl⟩
theorem open_pageF {fuel : Nat} {cs : List Value} {x : DataW H × List MemPlace} (h : DataW.trod enc Tryd.prog W 0 (fun _ => true) true fuel 28 cs = some x) :
    ∃ (k : Int) (n : Nat) (vb : Value) (l : List UInt8), cs = [.int .i64 k, .int .u32 (n : Int), vb] ∧ Byt W vb l ∧ (-9223372036854775808 ≤ k ∧ k ≤ 9223372036854775807) ∧ n < 4294967296 := by
  obtain ⟨y0, y1, y2, n, _, hl, g0, g1, g2⟩ := trod_struct3 Tryd.underlying28 h
  rw [cellPage] at hl
  simp only [cellP0, cellP1, cellP2] at g0 g1 g2
  obtain ⟨k, e0, _, w0⟩ := DataW.trod_int Tryd.underlying3 g0
  obtain ⟨nn, e1, _, w1⟩ := DataW.trod_int Tryd.underlying26 g1
  obtain ⟨vb, l, e2, hb⟩ := open_bytesF g2
  obtain ⟨n32, rfl, hn⟩ := open_u32 w1
  match cs, hl with
  | [c0, c1, c2], _ =>
    simp at e0 e1 e2
    subst e0 e1 e2
    exact ⟨k, n32, c2, l, rfl, hb, open_i64 w0, hn⟩
theorem open_page {base : Nat} {v : Value} {d : DataW H} {p : List MemPlace}
    (hv : Value.okWide Tryd.prog W .any base 28 v) (h : DataW.Trod enc Tryd.prog W 0 (fun _ => true) true 28 v d p) :
    ∃ (k : Int) (n : Nat) (vb : Value) (l : List UInt8), v = .agg (pageV k (n : Int) vb) ∧ Byt W vb l ∧ (-9223372036854775808 ≤ k ∧ k ≤ 9223372036854775807) ∧ n < 4294967296 := by
  obtain ⟨cs, rfl, _⟩ := okWide_struct Tryd.underlying28 hv
  obtain ⟨fuel, hf⟩ := h
  obtain ⟨k, n, vb, l, e, hb, b1, b2⟩ := open_pageF hf
  refine ⟨k, n, vb, l, ?_, hb, b1, b2⟩
  simp [Value.cells] at e
  obtain ⟨l⟩ := cs
  simp at e
  subst e
  rfl
end
end Go.Proofs.YtagchbpofoidmaaDoor
