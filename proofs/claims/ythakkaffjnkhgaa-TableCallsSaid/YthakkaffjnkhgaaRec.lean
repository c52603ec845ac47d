/-
  A slice of structs that came in, whatever their type: each as a row of cells. Conditions: none but those that each theorem names.
-/
import Derived.Test.YthakkaffjnkhgaaRowq
import Derived.Test.YthakkaffjnkhgaaOpen
import Derived.Deep.Slices
import Derived.Deep.Fields
import Derived.Maps.AppendAt
namespace Go.Proofs.Ythakkaffjnkhgaa
open Go.ChangeShapes Go.WideShapes Go.ChangeAt Go.RowKit Go.Deep Go.Maps
set_option maxRecDepth 100000

/-- The slice value v has n structs, each of m cells. -/
def Recs {α : Type} (m : Nat) (g : α → List Value) (ok : α → Prop) (w : World) (v : Value) (n : Nat) (f : Nat → α) : Prop :=
  ∃ (A : Option Addr) (c : Nat), v = .slice A n c ∧ n ≤ c ∧ c ≤ 9223372036854775807 ∧
    (n = 0 ∨ ∃ b off, A = some ⟨b, off, none⟩ ∧ b < w.heap.size ∧ ∀ j, j < n → (∀ i x, (g (f j))[i]? = some x → w.cell? ⟨b, off + j * m + i, none⟩ = some x) ∧ ok (f j))
section
variable {α : Type} {m : Nat} {g : α → List Value} {ok : α → Prop}
theorem Recs.below {w w' : World} {v : Value} {n : Nat} {f : Nat → α} (h : Recs m g ok w v n f) (hb : Below w.heap.size w w') : Recs m g ok w' v n f := by
  obtain ⟨A, c, rfl, h1, h2, h3⟩ := h
  refine ⟨A, c, rfl, h1, h2, ?_⟩
  rcases h3 with h3 | ⟨b, off, rfl, hlt, hc⟩
  · exact .inl h3
  · exact .inr ⟨b, off, rfl, Nat.lt_of_lt_of_le hlt hb.size, fun j hj => ⟨fun i x hx => by rw [← (hc j hj).1 i x hx]; exact hb.cell (p := ⟨b, off + j * m + i, none⟩) hlt, (hc j hj).2⟩⟩
theorem Recs.form {w : World} {v : Value} {n : Nat} {f : Nat → α} (h : Recs m g ok w v n f) : ∃ A c, v = .slice A n c ∧ n ≤ c ∧ c ≤ 9223372036854775807 := by
  obtain ⟨A, c, rfl, h1, h2, _⟩ := h
  exact ⟨A, c, rfl, h1, h2⟩
theorem Recs.at {w : World} {A : Option Addr} {l c n k : Nat} {f : Nat → α} (h : Recs m g ok w (.slice A l c) n f) (hk : k < n) :
    ∃ b off, A = some ⟨b, off, none⟩ ∧ b < w.heap.size ∧ (∀ i x, (g (f k))[i]? = some x → w.cell? ⟨b, off + k * m + i, none⟩ = some x) ∧ ok (f k) := by
  obtain ⟨A', c', hv, h1, h2, h3⟩ := h
  injection hv with e1 e2 e3
  subst e1
  rcases h3 with h3 | ⟨b, off, rfl, hb, hc⟩
  · omega
  · exact ⟨b, off, rfl, hb, hc k hk⟩
theorem open_recs [Inhabited α] {H : Type} {enc : TypeId × Value → H} {W : World} {base : Nat} {v : Value} {d : DataW H} {p : List MemPlace} {t e : TypeId} (ht : Try.prog.underlying t = some (.slice e)) (hC : Try.prog.cellsOf e = m) (hm0 : 0 < m) (hg : ∀ a, (g a).length = m)
    (ho : ∀ {fuel : Nat} {cs : List Value} {x : DataW H × List MemPlace}, DataW.trod enc Try.prog W 0 (fun _ => true) true fuel e cs = some x → ∃ a, cs = g a ∧ ok a)
    (hv : Value.okWide Try.prog W .any base t v) (h : DataW.Trod enc Try.prog W 0 (fun _ => true) true t v d p) : ∃ n f, Recs m g ok W v n f := by
  obtain ⟨a, len, cap, rfl⟩ := okWide_slice ht hv
  obtain ⟨fuel, hf⟩ := h
  rcases open_slice ht hf with ⟨hcs, _⟩ | ⟨ad, l, c, m', k, D, Pl, hcs, _, hl, hm, hmm, _, hat⟩
  · simp [Value.cells] at hcs
    obtain ⟨rfl, rfl, rfl⟩ := hcs
    exact ⟨0, fun _ => default, none, 0, rfl, by omega, by omega, .inl rfl⟩
  · simp [Value.cells] at hcs
    obtain ⟨rfl, rfl, rfl⟩ := hcs
    have hmc : m' = cap := by simpa using hmm
    subst hmc
    rw [hC] at hat
    obtain ⟨f, hf⟩ := choose_lt (α := α) (n := len) (p := fun j a => (∀ i x, (g a)[i]? = some x → W.cell? ((ad.add (j * m)).add i) = some x) ∧ ok a) (fun j hj => by
      obtain ⟨cs', hc, htr⟩ := hat j (by omega)
      obtain ⟨_, hcl, hcell⟩ := World.cells?_some hc
      obtain ⟨a, rfl, ha⟩ := ho htr
      refine ⟨a, fun i x hx => ?_, ha⟩
      have hi : i < m := by
        have := (List.getElem?_eq_some_iff.1 hx).1
        rw [hcl] at this
        exact this
      rw [hcell i hi, hx])
    unfold maxLen at hm
    refine ⟨len, f, some ad, m', rfl, hl, by omega, ?_⟩
    by_cases hz : len = 0
    · exact .inl hz
    · have h0 : ∃ x, (g (f 0))[0]? = some x := by
        have := hg (f 0)
        exact ⟨_, List.getElem?_eq_getElem (by omega)⟩
      obtain ⟨x0, hx0⟩ := h0
      have hsp : ad.spot = none := by
        have := World.cell?_spot ((hf 0 (by omega)).1 0 _ hx0)
        simpa [Addr.add] using this
      obtain ⟨b, off, spot⟩ := ad
      simp only at hsp
      subst hsp
      refine .inr ⟨b, off, rfl, ?_, fun j hj => ⟨fun i x hx => ?_, (hf j hj).2⟩⟩
      · have hx := (hf 0 (by omega)).1 0 _ hx0
        rcases Nat.lt_or_ge b W.heap.size with h' | h'
        · exact h'
        · rw [plainAdd, plainAdd] at hx
          simp [World.cell?, Array.getElem?_eq_none h'] at hx
      · have := (hf j hj).1 i x hx
        rw [plainAdd, plainAdd] at this
        exact this
end
end Go.Proofs.Ythakkaffjnkhgaa
