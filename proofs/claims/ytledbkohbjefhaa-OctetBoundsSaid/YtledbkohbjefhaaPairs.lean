/-
  A slice of structs of two ints that came in: what its cells hold. Conditions: none.
-/
import Derived.Test.YtledbkohbjefhaaOpen
import Derived.Deep.Slices
namespace Go.Proofs.Ytledbkohbjefhaa
open Go.ChangeShapes Go.WideShapes Go.ChangeAt Go.RowKit Go.Deep

/-- The slice value v has n elements of two ints each. -/
def Pairs (w : World) (v : Value) (n : Nat) (f : Nat → Int × Int) : Prop :=
  ∃ (A : Option Addr) (c : Nat), v = .slice A n c ∧ n ≤ c ∧ c ≤ 9223372036854775807 ∧
    (n = 0 ∨ ∃ b off, A = some ⟨b, off, none⟩ ∧ b < w.heap.size ∧ ∀ j, j < n → w.cell? ⟨b, off + j * 2, none⟩ = some (.int .i64 (f j).1) ∧ w.cell? ⟨b, off + j * 2 + 1, none⟩ = some (.int .i64 (f j).2) ∧
      (-9223372036854775808 ≤ (f j).2 ∧ (f j).2 ≤ 9223372036854775807))

theorem open_pairs {H : Type} {enc : TypeId × Value → H} {W : World} {base : Nat} {v : Value} {d : DataW H} {p : List MemPlace} {t e : TypeId} {f0 f1 : Field}
    (ht : Try.prog.underlying t = some (.slice e)) (he : Try.prog.underlying e = some (.struct #[f0, f1])) (hC : Try.prog.cellsOf e = 2)
    (h0 : f0.offset = 0 ∧ f0.type = 3) (h1 : f1.offset = 1 ∧ f1.type = 3) (hi : Try.prog.cellsOf 3 = 1)
    (hv : Value.okWide Try.prog W .any base t v) (h : DataW.Trod enc Try.prog W 0 (fun _ => true) true t v d p) : ∃ n f, Pairs W v n f := by
  obtain ⟨a, len, cap, rfl⟩ := okWide_slice ht hv
  obtain ⟨fuel, hf⟩ := h
  rcases open_slice ht hf with ⟨hcs, _⟩ | ⟨ad, l, c, m, k, D, Pl, hcs, _, hl, hm, hmm, _, hat⟩
  · simp [Value.cells] at hcs
    obtain ⟨rfl, rfl, rfl⟩ := hcs
    exact ⟨0, fun _ => (0, 0), none, 0, rfl, by omega, by omega, .inl rfl⟩
  · simp [Value.cells] at hcs
    obtain ⟨rfl, rfl, rfl⟩ := hcs
    have hmc : m = cap := by simpa using hmm
    subst hmc
    have key : ∀ j, j < len → ∃ x y : Int, W.cell? (ad.add (j * 2)) = some (.int .i64 x) ∧ W.cell? ((ad.add (j * 2)).add 1) = some (.int .i64 y) ∧ (Lit.int .i64 y).wf = true := by
      intro j hj
      obtain ⟨cs', hc, htr⟩ := hat j (by omega)
      rw [hC] at hc
      obtain ⟨_, hcl, hcell⟩ := World.cells?_some hc
      obtain ⟨y0, y1, n, _, hlen, g0, g1⟩ := trod_struct2 he htr
      rw [h0.1, h0.2, hi] at g0
      rw [h1.1, h1.2, hi] at g1
      obtain ⟨x, hx, _, _⟩ := DataW.trod_int Try.underlying3 g0
      obtain ⟨y, hy, _, hw⟩ := DataW.trod_int Try.underlying3 g1
      match cs', hcl with
      | [c0, c1], _ =>
        simp at hx hy
        subst hx hy
        refine ⟨x, y, ?_, ?_, hw⟩
        · have := hcell 0 (by omega)
          simpa [Addr.add] using this
        · have := hcell 1 (by omega)
          simpa using this
    unfold maxLen at hm
    by_cases hz : len = 0
    · exact ⟨len, fun _ => (0, 0), _, _, rfl, hl, by omega, .inl hz⟩
    · have hsp : ad.spot = none := by
        obtain ⟨x, y, hx, _⟩ := key 0 (by omega)
        have := World.cell?_spot hx
        simpa [Addr.add] using this
      obtain ⟨b, off, spot⟩ := ad
      simp only at hsp
      subst hsp
      have key2 : ∀ j, ∃ z : Int × Int, j < len → W.cell? ⟨b, off + j * 2, none⟩ = some (.int .i64 z.1) ∧ W.cell? ⟨b, off + j * 2 + 1, none⟩ = some (.int .i64 z.2) ∧ (-9223372036854775808 ≤ z.2 ∧ z.2 ≤ 9223372036854775807) := by
        intro j
        by_cases hj : j < len
        · obtain ⟨x, y, hx, hy, hw⟩ := key j hj
          rw [plainAdd, plainAdd] at hy
          rw [plainAdd] at hx
          exact ⟨(x, y), fun _ => ⟨hx, hy, open_i64 hw⟩⟩
        · exact ⟨(0, 0), fun h => absurd h hj⟩
      refine ⟨len, fun j => Classical.choose (key2 j), _, _, rfl, hl, by omega, .inr ⟨b, off, rfl, ?_, fun j hj => Classical.choose_spec (key2 j) hj⟩⟩
      obtain ⟨x, y, hx, _⟩ := key 0 (by omega)
      rcases Nat.lt_or_ge b W.heap.size with h' | h'
      · exact h'
      · rw [plainAdd] at hx
        simp [World.cell?, Array.getElem?_eq_none h'] at hx
end Go.Proofs.Ytledbkohbjefhaa
