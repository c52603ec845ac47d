/-
  Rows of one-cell values of a call's own (OwnV), lists of numbers as cells (natC, intC), a slice of ints that came in. Conditions: none.
-/
import Derived.Test.YthakkaffjnkhgaaRowq
import Derived.Test.YthakkaffjnkhgaaOpen
import Derived.Lib.Hide
import Derived.Laws.MakeOwn
import Derived.Lib.SliceRun
namespace Go.Proofs.Ythakkaffjnkhgaa
open Go.ChangeShapes Go.WideShapes Go.ChangeAt Go.RowKit Go.Maps
set_option maxRecDepth 100000
set_option linter.unusedVariables false

/-- The slice value v holds these values in a row of the call's own, from block B on. -/
def OwnV (w : World) (B : Nat) (e : TypeId) (v : Value) (vs : List Value) : Prop := w.ownsRow B e 1 v vs.length vs
theorem OwnV.nil (w : World) (B : Nat) (e : TypeId) : OwnV w B e (.slice none 0 0) [] := World.ownsRow_nil w B _ 1
theorem OwnV.rowz {w : World} {B : Nat} {e : TypeId} {v : Value} {vs : List Value} (h : OwnV w B e v vs) : Rowz w v vs := by
  rcases h.2 with ⟨rfl, h0⟩ | ⟨g, cap, cur, rfl, hb, hg, h1, h2, h3, h4⟩
  · obtain rfl : vs = [] := List.eq_nil_of_length_eq_zero h0
    exact Rowz.nil w
  · refine ⟨_, cap, rfl, h1, h2, .inr ⟨g, 0, rfl, (Array.getElem?_eq_some_iff.1 hg).1, fun j hj => ?_⟩⟩
    have := World.ownsRow.cells h (g := g) rfl j vs[j] (List.getElem?_eq_getElem hj)
    rw [plainAdd] at this
    exact this
theorem OwnV.keep {w w' : World} {B : Nat} {e : TypeId} {v : Value} {vs : List Value} (h : OwnV w B e v vs) (hb : Below w.heap.size w w') : OwnV w' B e v vs := by
  refine World.ownsRow.kept (row := none) h ⟨hb.os, hb.tape, hb.output, hb.size, fun k hk _ => hb.block k hk⟩ ?_
  cases v.ownBlock <;> simp
theorem OwnV.lower {w : World} {B B' : Nat} {e : TypeId} {v : Value} {vs : List Value} (h : OwnV w B e v vs) (hB : B' ≤ B) : OwnV w B' e v vs := by
  refine ⟨h.1, ?_⟩
  rcases h.2 with h0 | ⟨g, cap, cur, hv, hb, r⟩
  · exact .inl h0
  · exact .inr ⟨g, cap, cur, hv, Nat.le_trans hB hb, r⟩
/-- A row with a place in it is a block's beginning. -/
theorem OwnV.form {w : World} {B : Nat} {e : TypeId} {v : Value} {vs : List Value} (h : OwnV w B e v vs) (h0 : 0 < vs.length) :
    ∃ g c, v = .slice (some ⟨g, 0, none⟩) vs.length c ∧ B ≤ g ∧ g < w.heap.size ∧ vs.length ≤ c ∧ c ≤ 9223372036854775807 ∧ (∀ j (hj : j < vs.length), w.cell? ⟨g, j, none⟩ = some vs[j]) ∧ (∀ j, w.frozen? ⟨g, j, none⟩ = false) := by
  rcases h.2 with ⟨_, h1⟩ | ⟨g, cap, cur, rfl, hb, hg, h1, h2, h3, h4⟩
  · omega
  · refine ⟨g, cap, rfl, hb, (Array.getElem?_eq_some_iff.1 hg).1, h1, by unfold maxLen at h2; omega, fun j hj => ?_, fun j => by simp [World.frozen?, hg]⟩
    have := World.ownsRow.cells h (g := g) rfl j vs[j] (List.getElem?_eq_getElem hj)
    rw [plainAdd, Nat.zero_add] at this
    exact this
theorem OwnV.set {w : World} {B g n c : Nat} {e : TypeId} {vs : List Value} (h : OwnV w B e (.slice (some ⟨g, 0, none⟩) n c) vs) (hl : vs.length = n) (j : Nat) (u : Value) :
    OwnV (w.setCell ⟨g, j, none⟩ u) B e (.slice (some ⟨g, 0, none⟩) n c) (vs.set j u) := by
  unfold OwnV at h ⊢
  rw [List.length_set]
  rw [hl] at h ⊢
  exact (World.ownsRow.stored h j u).1
theorem OwnV.below {B : Nat} {e : TypeId} {a w w' : World} {v : Value} {vs : List Value} (ho : OwnV w B e v vs) (h : Below B a w) (hB : B ≤ w.heap.size) (hg : w.grownBy w' v.ownBlock) : Below B a w' :=
  h.grown hg hB fun k hk => (World.ownsRow.lt ho k hk).1
theorem OwnV.empty (w : World) (e : TypeId) : OwnV (w.alloc (.cells #[] e)) w.heap.size e (.slice (some ⟨w.heap.size, 0, none⟩) 0 0) [] :=
  World.ownsRow_lit (base := w.heap.size) (e := e) (size := 1) w #[] 0 (Nat.le_refl _) (by simp [maxLen]) rfl
theorem OwnV.made {w : World} {B g n : Nat} {e : TypeId} {z : Value} (hz : z.cells = #[z]) (h : w.ownsRow B e 1 (.slice (some ⟨g, 0, none⟩) n n) n (madeCells z.cells (n * 1)).toList) : OwnV w B e (.slice (some ⟨g, 0, none⟩) n n) (List.replicate n z) := by
  unfold OwnV
  rw [hz, toList_madeCells_one, Nat.mul_one] at h
  rw [List.length_replicate]
  exact h
/-- A row that was just laid. -/
theorem Rowz.litV (w : World) (vs : List Value) (t : TypeId) (hl : vs.length ≤ maxLen) : Rowz (w.alloc (.cells vs.toArray t)) (.slice (some ⟨w.heap.size, 0, none⟩) vs.length vs.length) vs := by
  refine ⟨_, _, rfl, Nat.le_refl _, hl, .inr ⟨w.heap.size, 0, rfl, by simp, fun j hj => ?_⟩⟩
  rw [cell_of_row _ _ _ _ _ _ (heap_alloc_new w _)]
  simp [hj]
theorem Rowz.alloc {w : World} {v : Value} {vs : List Value} (h : Rowz w v vs) (o : Obj) : Rowz (w.alloc o) v vs := h.below ((Below.refl _ _).alloc (Nat.le_refl _) o)

section
variable {P : Program} (w : World)
theorem run_appV (B : Nat) (t ty e : TypeId) (by1 : Nat) (i : TypeInfo) (z : Value) (ht : P.underlying t = some (.slice e)) (hi : P.info? e = some i) (hz : i.zero = some z)
    (hsize : i.size = 1) (hby : i.bytes = by1) (hzs : z.cells.size = 1) (v x : Value) (l m : List Value) (hown : OwnV w B e v l) (hx : Rowz w x m) (h1 : ∀ u ∈ m, u.oneCell' = true)
    (hlen : (l.length + m.length) * by1 ≤ 140737488355328) (hml : l.length + m.length ≤ maxLen) (hbase : B ≤ w.heap.size) :
    ∃ v' w', (Builtin.append_ #[t, t] ty #[v, x]).run P w = .ok v' w' ∧ OwnV w' B e v' (l ++ m) ∧ w.grownBy w' v.ownBlock ∧ (v'.ownBlock = v.ownBlock ∨ v'.ownBlock = some w.heap.size) := by
  obtain ⟨A, c, rfl, hc1, hc2, h3⟩ := hx
  cases A with
  | none =>
    have hm : m = [] := by
      rcases h3 with h3 | ⟨b, off, h, _⟩
      · exact h3
      · cases h
    subst hm
    refine ⟨v, w, ?_, by simpa using hown, World.grownBy.refl w _, .inl rfl⟩
    rcases hown.2 with ⟨rfl, _⟩ | ⟨g, cap, cur, rfl, _, _, hnc, _⟩
    · simp [Builtin.append_, run_underlying ht, sizeOf, typeInfo, hi, Builtin.lenOf, Builtin.firstCells]
    · simp [Builtin.append_, run_underlying ht, sizeOf, typeInfo, hi, Builtin.lenOf, Builtin.firstCells, hnc, storeCells]
  | some ad =>
    have hcells : ∀ j u, m[j]? = some u → w.cell? (ad.add j) = some u := by
      intro j u hu
      obtain ⟨hj, rfl⟩ := List.getElem?_eq_some_iff.1 hu
      rcases h3 with rfl | ⟨b, off, h, _, hc⟩
      · simp at hj
      · injection h with h
        subst h
        rw [plainAdd]
        exact hc j hj
    obtain ⟨v', w', hrun, g2, g3, _, g5⟩ := run_append_own_at (P := P) w B t ty e i z 1 by1 ht hi hz hsize hby hzs (by omega) v l.length l hown ad m.length c m
      (by omega) hcells h1 hml hlen hbase
    refine ⟨v', w', hrun, ?_, g3, g5⟩
    unfold OwnV
    rw [List.length_append]
    exact g2
variable {w}
theorem wpList_appV {ops : Array Oper} {rest : List Oper} {o : Oper} {a : Act} {Q : Exit → Act → World → Prop} (hgd : o.guard = none) (s x : Operand) (t : TypeId)
    (ho : o.op = .call { callee := .builtin .append, args := #[s, x], argTypes := #[t, t] })
    (B : Nat) (e : TypeId) (by1 : Nat) (i : TypeInfo) (z : Value) (ht : P.underlying t = some (.slice e)) (hi : P.info? e = some i) (hz : i.zero = some z)
    (hsize : i.size = 1) (hby : i.bytes = by1) (hzs : z.cells.size = 1) (v : Value) (l : List Value) (hs : a.eval s = v) (hown : OwnV w B e v l)
    (xv : Value) (m : List Value) (hxv : a.eval x = xv) (hx : Rowz w xv m) (h1 : ∀ u ∈ m, u.oneCell' = true)
    (hlen : (l.length + m.length) * by1 ≤ 140737488355328) (hml : l.length + m.length ≤ maxLen) (hbase : B ≤ w.heap.size)
    (h : ∀ v' w', OwnV w' B e v' (l ++ m) → w.grownBy w' v.ownBlock → (v'.ownBlock = v.ownBlock ∨ v'.ownBlock = some w.heap.size) → wpList P ops Q rest (a.put o.dst v') w') : wpList P ops Q (o :: rest) a w := by
  refine wpList_plain hgd fun K hK => ?_
  obtain ⟨v', w', hrun, h2, h3, h4⟩ := run_appV (P := P) w B t o.type e by1 i z ht hi hz hsize hby hzs v xv l m hown hx h1 hlen hml hbase
  unfold Oper.wp execOp
  simp only [ho, resolve, invoke, builtin, Sem.run_bind, Sem.run_pure, Result.andThen_ok, List.map_toArray, List.map_cons, List.map_nil, hs, hxv, hrun]
  exact hK _ _ (h v' w' h2 h3 h4)
end

/-- Ints as cells. -/
def natC (l : List Nat) : List Value := l.map fun n : Nat => Value.int .i64 (n : Int)
theorem natC_len (l : List Nat) : (natC l).length = l.length := by simp [natC]
theorem natC_app (l m : List Nat) : natC (l ++ m) = natC l ++ natC m := by simp [natC]
theorem iinfo : (Try.prog.info? 3).map (fun i => (i.zero, i.size, i.bytes)) = some (some (.int .i64 0), 1, 8) := by kernel_rfl
/-- What a call that makes a list of ints of its own leaves. -/
def MadeN (w : World) (l : List Nat) (e : Ending) (w' : World) : Prop := ∃ v, e = .returned v ∧ OwnV w' w.heap.size 3 v (natC l) ∧ Below w.heap.size w w'

def intC (zs : List Int) : List Value := zs.map (Value.int .i64)
theorem intC_len (zs : List Int) : (intC zs).length = zs.length := by simp [intC]
theorem intC_at (zs : List Int) (j : Nat) (h : j < (intC zs).length) : (intC zs)[j] = .int .i64 (zs[j]'(by rw [intC_len] at h; exact h)) := by simp [intC]
theorem intC_one (zs : List Int) : ∀ u ∈ intC zs, u.oneCell' = true := by
  intro u hu
  simp only [intC, List.mem_map] at hu
  obtain ⟨z, _, rfl⟩ := hu
  rfl
theorem natC_one (l : List Nat) : ∀ u ∈ natC l, u.oneCell' = true := by
  intro u hu
  simp only [natC, List.mem_map] at hu
  obtain ⟨z, _, rfl⟩ := hu
  rfl
theorem natC_getAt (l : List Nat) (j : Nat) (h : j < (natC l).length) : (natC l)[j] = .int .i64 ((l[j]'(by rw [natC_len] at h; exact h) : Nat) : Int) := by simp [natC]
/-- A slice of ints that came in. -/
theorem open_introw {H : Type} {enc : TypeId × Value → H} {W : World} {base : Nat} {v : Value} {d : DataW H} {p : List MemPlace}
    (hv : Value.okWide Try.prog W .any base 22 v) (h : DataW.Trod enc Try.prog W 0 (fun _ => true) true 22 v d p) : ∃ zs : List Int, Rowz W v (zs.map (Value.int .i64)) := by
  obtain ⟨a, len, cap, rfl⟩ := okWide_slice Try.underlying22 hv
  obtain ⟨fuel, hf⟩ := h
  rcases open_ints Try.underlying22 Try.underlying3 (by kernel_rfl) hf with ⟨hcs, _⟩ | ⟨x, l, c, zs, hcs, _, hl, hm, hz, _, hcell, hwz⟩
  · simp [Value.cells] at hcs
    obtain ⟨rfl, rfl, rfl⟩ := hcs
    exact ⟨[], Rowz.nil W⟩
  · simp [Value.cells] at hcs
    obtain ⟨rfl, rfl, rfl⟩ := hcs
    have hz' : zs.length = cap := by simpa using hz
    have hlen : ((zs.take len).map (Value.int .i64)).length = len := by rw [List.length_map, List.length_take]; omega
    refine ⟨zs.take len, _, cap, by rw [hlen], by omega, hm, ?_⟩
    by_cases h0 : len = 0
    · exact .inl (by subst h0; simp)
    · obtain ⟨b, off, spot⟩ := x
      have hc0 := hcell 0 (by omega)
      have hspot : spot = none := by simpa [Addr.add] using World.cell?_spot hc0
      subst hspot
      refine .inr ⟨b, off, rfl, ?_, fun j hj => ?_⟩
      · rcases Nat.lt_or_ge b W.heap.size with h' | h'
        · exact h'
        · rw [plainAdd] at hc0
          simp [World.cell?, Array.getElem?_eq_none h'] at hc0
      · rw [hlen] at hj
        have hc := hcell j (by omega)
        rw [plainAdd] at hc
        rw [hc]
        have hjz : j < zs.length := by omega
        simp [List.getElem?_eq_getElem hjz]


section
variable {P : Program} {o : Oper} {a : Act} {w : World} {Q : Exit → Act → World → Prop} {K : Act → World → Prop}
theorem wp_appV (s x : Operand) (t : TypeId)
    (ho : o.op = .call { callee := .builtin .append, args := #[s, x], argTypes := #[t, t] })
    (B : Nat) (e : TypeId) (by1 : Nat) (i : TypeInfo) (z : Value) (ht : P.underlying t = some (.slice e)) (hi : P.info? e = some i) (hz : i.zero = some z)
    (hsize : i.size = 1) (hby : i.bytes = by1) (hzs : z.cells.size = 1) (v : Value) (l : List Value) (hs : a.eval s = v) (hown : OwnV w B e v l)
    (xv : Value) (m : List Value) (hxv : a.eval x = xv) (hx : Rowz w xv m) (h1 : ∀ u ∈ m, u.oneCell' = true)
    (hlen : (l.length + m.length) * by1 ≤ 140737488355328) (hml : l.length + m.length ≤ maxLen) (hbase : B ≤ w.heap.size)
    (h : ∀ v' w', OwnV w' B e v' (l ++ m) → w.grownBy w' v.ownBlock → (v'.ownBlock = v.ownBlock ∨ v'.ownBlock = some w.heap.size) → K (a.put o.dst v') w') : o.wp P a w K Q := by
  obtain ⟨v', w', hrun, h2, h3, h4⟩ := run_appV (P := P) w B t o.type e by1 i z ht hi hz hsize hby hzs v xv l m hown hx h1 hlen hml hbase
  unfold Oper.wp execOp
  simp only [ho, resolve, invoke, builtin, Sem.run_bind, Sem.run_pure, Result.andThen_ok, List.map_toArray, List.map_cons, List.map_nil, hs, hxv, hrun]
  exact h _ _ h2 h3 h4
end
end Go.Proofs.Ythakkaffjnkhgaa
