/-
  Rows of slices that a call owns, and append onto them; a slice of ints that came in, opened. Conditions: a row is short.
-/
import Derived.Test.YthabjfnaghdenaaParts
import Derived.Test.YthabjfnaghdenaaOpen
namespace Go.Proofs.Ythabjfnaghdenaa
open Go.ChangeShapes Go.WideShapes Go.ChangeAt Go.RowKit

/-- The slice value v holds these slices in a row of the call's own, from block B on. -/
def OwnR (w : World) (B : Nat) (v : Value) (vs : List Value) : Prop := w.ownsRow B 28 1 v vs.length vs
theorem OwnR.nil (w : World) (B : Nat) : OwnR w B (.slice none 0 0) [] := World.ownsRow_nil w B _ 1
theorem OwnR.rowz {w : World} {B : Nat} {v : Value} {vs : List Value} (h : OwnR w B v vs) : Rowz w v vs := by
  rcases h.2 with ⟨rfl, h0⟩ | ⟨g, cap, cur, rfl, hb, hg, h1, h2, h3, h4⟩
  · obtain rfl : vs = [] := List.eq_nil_of_length_eq_zero h0
    exact Rowz.nil w
  · refine ⟨_, cap, rfl, h1, h2, .inr ⟨g, 0, rfl, (Array.getElem?_eq_some_iff.1 hg).1, fun j hj => ?_⟩⟩
    have := World.ownsRow.cells h (g := g) rfl j vs[j] (List.getElem?_eq_getElem hj)
    rw [plainAdd] at this
    exact this
theorem OwnR.keep {w w' : World} {B : Nat} {v : Value} {vs : List Value} (h : OwnR w B v vs) (hb : Below w.heap.size w w') : OwnR w' B v vs := by
  refine World.ownsRow.kept (row := none) h ⟨hb.os, hb.tape, hb.output, hb.size, fun k hk _ => hb.block k hk⟩ ?_
  cases v.ownBlock <;> simp
theorem sinfo : (Try.prog.info? 28).map (fun i => (i.zero, i.size, i.bytes)) = some (some (.slice none 0 0), 1, 24) := by kernel_rfl

section
variable {ops : Array Oper} {rest : List Oper} {o : Oper} {a : Act} {w : World} {Q : Exit → Act → World → Prop}
/-- 'append(vs, x)', x in a row that was just laid. -/
theorem wpList_appR (hgd : o.guard = none) (s x : Operand) (ho : o.op = .call { callee := .builtin .append, args := #[s, x], argTypes := #[34, 34] })
    (B : Nat) (v : Value) (vs : List Value) (hs : a.eval s = v) (hown : OwnR w B v vs) (u : Value) (hx : a.eval x = .slice (some ⟨w.heap.size, 0, none⟩) 1 1) (hu : u.oneCell' = true) (hlen : vs.length ≤ 1000) (hbase : B ≤ w.heap.size)
    (h : ∀ v' w', OwnR w' B v' (vs ++ [u]) → (∀ b0, Below B b0 w → Below B b0 w') → w.heap.size ≤ w'.heap.size → wpList Try.prog ops Q rest (a.put o.dst v') w') : wpList Try.prog ops Q (o :: rest) a (w.alloc (.cells #[u] 28)) := by
  obtain ⟨i0, hi0, hz0, hz1, hz2⟩ := info_parts sinfo
  have hown' : OwnR (w.alloc (.cells #[u] 28)) B v vs := World.ownsRow.alloc hown _
  obtain ⟨v', w', hrun, g2, g3, _, g5⟩ := run_append_own_at (P := Try.prog) (w.alloc (.cells #[u] 28)) B 34 o.type 28 i0 (.slice none 0 0) 1 24 Try.underlying34 hi0 hz0 hz1 hz2 rfl (by omega) v vs.length vs hown'
    ⟨w.heap.size, 0, none⟩ 1 1 [u] rfl (fun j y hy => by
      have hj : j = 0 := by
        have := (List.getElem?_eq_some_iff.1 hy).1
        simpa using this
      subst hj
      rw [plainAdd, cell_of_row _ _ _ _ _ _ (heap_alloc_new w _)]
      simpa using hy) (by simpa using hu) (by simp only [maxLen]; omega) (by omega) (by simp only [World.size_alloc]; omega)
  refine wpList_plain hgd fun K hK => ?_
  unfold Oper.wp execOp
  simp only [ho, resolve, invoke, builtin, Sem.run_bind, Sem.run_pure, Result.andThen_ok, List.map_toArray, List.map_cons, List.map_nil, hs, hx, hrun]
  refine hK _ _ (h v' w' ?_ ?_ ?_)
  · unfold OwnR
    rw [List.length_append]
    exact g2
  · intro b0 hb0
    exact below_own (hb0.alloc hbase _) (by simp only [World.size_alloc]; omega) hown' g3
  · have := g3.size
    simp only [World.size_alloc] at this
    omega
end

/-- A slice of ints that came in. -/
theorem open_introw {H : Type} {enc : TypeId × Value → H} {W : World} {base : Nat} {v : Value} {d : DataW H} {p : List MemPlace}
    (hv : Value.okWide Try.prog W .any base 33 v) (h : DataW.Trod enc Try.prog W 0 (fun _ => true) true 33 v d p) : ∃ zs : List Int, Rowz W v (zs.map (Value.int .i64)) := by
  obtain ⟨a, len, cap, rfl⟩ := okWide_slice Try.underlying33 hv
  obtain ⟨fuel, hf⟩ := h
  rcases open_ints Try.underlying33 Try.underlying3 (by kernel_rfl) hf with ⟨hcs, _⟩ | ⟨x, l, c, zs, hcs, _, hl, hm, hz, _, hcell, hwz⟩
  · simp [Value.cells] at hcs
    obtain ⟨rfl, rfl, rfl⟩ := hcs
    exact ⟨[], Rowz.nil W⟩
  · simp [Value.cells] at hcs
    obtain ⟨rfl, rfl, rfl⟩ := hcs
    have hz' : zs.length = cap := by simpa using hz
    have hlen : ((zs.take len).map (Value.int .i64)).length = len := by rw [List.length_map, List.length_take]; omega
    refine ⟨zs.take len, _, cap, by rw [hlen], by omega, hm, ?_⟩
    by_cases h0 : len = 0
    · exact .inl (by subst h0; simp)
    · obtain ⟨b, off, spot⟩ := x
      have hc0 := hcell 0 (by omega)
      have hspot : spot = none := by simpa [Addr.add] using World.cell?_spot hc0
      subst hspot
      refine .inr ⟨b, off, rfl, ?_, fun j hj => ?_⟩
      · rcases Nat.lt_or_ge b W.heap.size with h' | h'
        · exact h'
        · rw [plainAdd] at hc0
          simp [World.cell?, Array.getElem?_eq_none h'] at hc0
      · rw [hlen] at hj
        have hc := hcell j (by omega)
        rw [plainAdd] at hc
        rw [hc]
        have hjz : j < zs.length := by omega
        simp [List.getElem?_eq_getElem hjz]
end Go.Proofs.Ythabjfnaghdenaa
