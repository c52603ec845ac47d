/-
  A struct of one-cell fields in a block of its own (SBox): loaded, stored whole, one field or one cell written, told as an answer; the same within a fence. Conditions: none.
-/
import Derived.Test.YthakkaffjnkhgaaZer
import Derived.OwnWalkIn
namespace Go.Proofs.Ythakkaffjnkhgaa
open Go.RowKit Go.Maps
set_option maxRecDepth 100000

/-- Block g holds a struct of type t, a cell each field. -/
def SBox (w : World) (g : Nat) (t : TypeId) (cs : List Value) : Prop := w.heap[g]? = some (.cells cs.toArray t (0, 0))
theorem SBox.lt {w : World} {g : Nat} {t : TypeId} {cs : List Value} (h : SBox w g t cs) : g < w.heap.size := (Array.getElem?_eq_some_iff.1 h).1
theorem SBox.cell {w : World} {g : Nat} {t : TypeId} {cs : List Value} (h : SBox w g t cs) (i : Nat) (u : Value) (hu : cs[i]? = some u) : w.cell? ⟨g, i, none⟩ = some u := by
  unfold SBox at h
  rw [cell_of_row _ _ _ _ _ _ h]
  simpa using hu
theorem SBox.frozen {w : World} {g : Nat} {t : TypeId} {cs : List Value} (h : SBox w g t cs) (i : Nat) : w.frozen? ⟨g, i, none⟩ = false := by
  unfold SBox at h
  simp [World.frozen?, h]
theorem SBox.new (w : World) (t : TypeId) (cs : List Value) : SBox (w.alloc (.cells cs.toArray t)) w.heap.size t cs := heap_alloc_new w _
theorem SBox.same {w w' : World} {g : Nat} {t : TypeId} {cs : List Value} (h : SBox w g t cs) (e : w'.heap[g]? = w.heap[g]?) : SBox w' g t cs := e.trans h
theorem SBox.below {w w' : World} {g : Nat} {t : TypeId} {cs : List Value} (h : SBox w g t cs) (hb : Below w.heap.size w w') : SBox w' g t cs := h.same (hb.block g h.lt)
theorem SBox.alloc {w : World} {g : Nat} {t : TypeId} {cs : List Value} (h : SBox w g t cs) (o : Obj) : SBox (w.alloc o) g t cs := h.below (below_new w o)
theorem SBox.grown {w w' : World} {g k : Nat} {t : TypeId} {cs : List Value} (h : SBox w g t cs) (hg : w.grownBy w' (some k)) (hne : g ≠ k) : SBox w' g t cs :=
  h.same (hg.block g h.lt (by simpa using hne))
theorem SBox.put {w : World} {g : Nat} {t : TypeId} {cs : List Value} (h : SBox w g t cs) (i : Nat) (v : Value) : SBox (w.setCell ⟨g, i, none⟩ v) g t (cs.set i v) := by
  unfold SBox at h ⊢
  simp [World.setCell, Array.getElem?_modify, h]
/-- Values stay as they were while a block of other values alone is written. -/
theorem Rowz.grown {w w' : World} {v : Value} {vs : List Value} {g : Nat} (h : Rowz w v vs) (hg : w.grownBy w' (some g)) (hne : ∀ k, v.ownBlock = some k → k ≠ g) : Rowz w' v vs := by
  obtain ⟨A, c, rfl, h1, h2, h3⟩ := h
  refine ⟨A, c, rfl, h1, h2, ?_⟩
  rcases h3 with h3 | ⟨b, off, rfl, hb, hc⟩
  · exact .inl h3
  · refine .inr ⟨b, off, rfl, Nat.lt_of_lt_of_le hb hg.size, fun j hj => ?_⟩
    rw [← hc j hj]
    exact World.cell?_of_block (a := ⟨b, off + j, none⟩) (hg.block b hb (by simpa using hne b (by simp [Value.ownBlock])))

section
variable {P : Program} {w : World} {g : Nat} {t : TypeId} {cs : List Value}
theorem SBox.loadVar {fs : Array Field} (h : SBox w g t cs) (hu : P.underlying t = some (.struct fs)) (hi : (P.info? t).map (·.size) = some cs.length) : (Go.loadVar t ⟨g, 0, none⟩).run P w = .ok (.agg cs.toArray) w := by
  have h1 := run_loadCells_list (P := P) w ⟨g, 0, none⟩ cs (fun j v hv => by
    rw [plainAdd, Nat.zero_add]
    exact h.cell j v hv)
  have hagg : (isAgg t).run P w = .ok true w := by
    unfold isAgg
    rw [Sem.run_bind, run_underlying hu w]
    rfl
  have hsz : (sizeOf t).run P w = .ok cs.length w := by
    cases hq : P.info? t with
    | none => simp [hq] at hi
    | some i => simp [hq] at hi; simp [sizeOf, typeInfo, hq, hi]
  unfold Go.loadVar
  simp only [Sem.run_bind, hagg, Result.andThen_ok, if_true, hsz, h1, Sem.run_pure]
theorem SBox.storeVar (h : SBox w g t cs) (hi : (P.info? t).map (·.size) = some cs.length) {ds : List Value} (hl : ds.length = cs.length) (h1 : ∀ u ∈ ds, u.oneCell' = true) :
    (Go.storeVar t ⟨g, 0, none⟩ (.agg ds.toArray)).run P w = .ok () (w.setRow g ds.toArray) := by
  have := storeCells_at (P := P) g 0 _ ds 0 _ w h (by simp; omega) h1
  rw [putAll_all _ _ (by simpa using hl)] at this
  cases hq : P.info? t with
  | none => simp [hq] at hi
  | some i =>
    have hsz : i.size = cs.length := by simpa [hq] using hi
    simp [Go.storeVar, sizeOf, typeInfo, hq, Value.cells, hsz, this, hl]
end

section
variable {P : Program} {ops : Array Oper} {rest : List Oper} {o : Oper} {a : Act} {w : World} {Q : Exit → Act → World → Prop} {g : Nat} {t : TypeId} {cs : List Value}
theorem exec_loadS {fs : Array Field} (h : SBox w g t cs) (hu : P.underlying t = some (.struct fs)) (hi : (P.info? t).map (·.size) = some cs.length) (x : Operand) (ho : o.op = .load t x) (hx : a.eval x = .pointer (some ⟨g, 0, none⟩)) :
    (execOp a.eval o).run P w = .ok (.value (.agg cs.toArray)) w := by
  unfold execOp
  simp only [ho, hx, Instr.loadAt, Instr.sureAddr, Sem.run_bind, Sem.run_pure, Result.andThen_ok, h.loadVar hu hi]
theorem exec_storeS (h : SBox w g t cs) (hi : (P.info? t).map (·.size) = some cs.length) (x y : Operand) (ho : o.op = .store t x y) (hx : a.eval x = .pointer (some ⟨g, 0, none⟩)) {ds : List Value} (hy : a.eval y = .agg ds.toArray)
    (hl : ds.length = cs.length) (h1 : ∀ u ∈ ds, u.oneCell' = true) : (execOp a.eval o).run P w = .ok .skip (w.setRow g ds.toArray) := by
  unfold execOp
  simp only [ho, hx, hy, Instr.storeAt, Instr.sureAddr, Sem.run_bind, Sem.run_pure, Result.andThen_ok, h.storeVar hi hl h1]
/-- The world behind: the struct, and nothing else written. -/
theorem SBox.setRow (h : SBox w g t cs) (ds : List Value) : SBox (w.setRow g ds.toArray) g t ds ∧ w.grownBy (w.setRow g ds.toArray) (some g) ∧ (w.setRow g ds.toArray).heap.size = w.heap.size :=
  ⟨setRow_heap w g _ _ _ _ h, ⟨rfl, rfl, rfl, by simp [World.setRow], fun k _ hk => by
    simp only [World.setRow]
    rw [Array.getElem?_modify, if_neg (fun e => hk (by rw [e]))]⟩, by simp [World.setRow]⟩
theorem wpList_loadS {fs : Array Field} (h : SBox w g t cs) (hu : P.underlying t = some (.struct fs)) (hi : (P.info? t).map (·.size) = some cs.length) (hgd : o.guard = none) (x : Operand) (ho : o.op = .load t x) (hx : a.eval x = .pointer (some ⟨g, 0, none⟩))
    (hK : wpList P ops Q rest (a.put o.dst (.agg cs.toArray)) w) : wpList P ops Q (o :: rest) a w :=
  wpList_plain hgd fun _ hk => by
    unfold Oper.wp
    rw [exec_loadS h hu hi x ho hx]
    exact hk _ _ hK
theorem wpList_storeS (h : SBox w g t cs) (hi : (P.info? t).map (·.size) = some cs.length) (hgd : o.guard = none) (x y : Operand) (ho : o.op = .store t x y) (hx : a.eval x = .pointer (some ⟨g, 0, none⟩)) {ds : List Value} (hy : a.eval y = .agg ds.toArray)
    (hl : ds.length = cs.length) (h1 : ∀ u ∈ ds, u.oneCell' = true)
    (hK : ∀ w', SBox w' g t ds → w.grownBy w' (some g) → w'.heap.size = w.heap.size → wpList P ops Q rest (a.put o.dst undef) w') : wpList P ops Q (o :: rest) a w :=
  wpList_plain hgd fun _ hk => by
    unfold Oper.wp
    rw [exec_storeS h hi x y ho hx hy hl h1]
    obtain ⟨s1, s2, s3⟩ := h.setRow ds
    exact hk _ _ (hK _ s1 s2 s3)
theorem exec_put1 (t' : TypeId) (x y : Operand) (ho : o.op = .store t' x y) (j : Nat) (v : Value) (hx : a.eval x = .pointer (some ⟨g, j, none⟩)) (hy : a.eval y = v) (h1 : v.oneCell' = true) (hs : (P.info? t').map (·.size) = some 1)
    (u : Value) (hc : w.cell? ⟨g, j, none⟩ = some u) (hf : w.frozen? ⟨g, j, none⟩ = false) : (execOp a.eval o).run P w = .ok .skip (w.setCell ⟨g, j, none⟩ v) := by
  have hst : (Go.store ⟨g, j, none⟩ v).run P w = .ok () (w.setCell ⟨g, j, none⟩ v) := by
    rw [run_store P w _ v _ h1, hc]
    simp [hf]
  have hcs : v.cells = #[v] := by cases v <;> first | rfl | simp [Value.oneCell'] at h1
  have hv : (Go.storeVar t' ⟨g, j, none⟩ v).run P w = .ok () (w.setCell ⟨g, j, none⟩ v) := by
    cases hq : P.info? t' with
    | none => simp [hq] at hs
    | some i =>
      have hsz : i.size = 1 := by simpa [hq] using hs
      simp [Go.storeVar, sizeOf, typeInfo, hq, hcs, hsz, storeCells, plainAdd, hst]
  unfold execOp
  simp only [ho, hx, hy, Instr.storeAt, Instr.sureAddr, Sem.run_bind, Sem.run_pure, Result.andThen_ok, hv]
/-- One cell of a block is written. -/
theorem wp_put1 {K : Act → World → Prop} (t' : TypeId) (x y : Operand) (ho : o.op = .store t' x y) (j : Nat) (v : Value) (hx : a.eval x = .pointer (some ⟨g, j, none⟩)) (hy : a.eval y = v) (h1 : v.oneCell' = true) (hs : (P.info? t').map (·.size) = some 1)
    (u : Value) (hc : w.cell? ⟨g, j, none⟩ = some u) (hf : w.frozen? ⟨g, j, none⟩ = false)
    (hK : ∀ w', w' = w.setCell ⟨g, j, none⟩ v → K (a.put o.dst undef) w') : o.wp P a w K Q := by
  unfold Oper.wp
  rw [exec_put1 t' x y ho j v hx hy h1 hs u hc hf]
  exact hK _ rfl
theorem wpList_put1 (t' : TypeId) (hgd : o.guard = none) (x y : Operand) (ho : o.op = .store t' x y) (j : Nat) (v : Value) (hx : a.eval x = .pointer (some ⟨g, j, none⟩)) (hy : a.eval y = v) (h1 : v.oneCell' = true) (hs : (P.info? t').map (·.size) = some 1)
    (u : Value) (hc : w.cell? ⟨g, j, none⟩ = some u) (hf : w.frozen? ⟨g, j, none⟩ = false)
    (hK : ∀ w', w' = w.setCell ⟨g, j, none⟩ v → wpList P ops Q rest (a.put o.dst undef) w') : wpList P ops Q (o :: rest) a w :=
  wpList_plain hgd fun _ hk => wp_put1 t' x y ho j v hx hy h1 hs u hc hf fun _ e => hk _ _ (hK _ e)
/-- A struct as a call's answer. -/
theorem ret_s1 {fn : Func} {p : Tmp} {Post : Ending → World → Prop} {fs : Array Field} (h : SBox w g t cs) (hu : P.underlying t = some (.struct fs)) (hi : (P.info? t).map (·.size) = some cs.length) (hd : a.defers = []) (hr : fn.results = #[.cell p t])
    (hp : a.tmps.getD p undef = .pointer (some ⟨g, 0, none⟩)) (hpost : Post (.returned (.agg cs.toArray)) w) : bodyPost P fn Post .ret a w := by
  refine bodyPost_ret (v := .agg cs.toArray) ?_ hd hpost
  have hp' : a.tmps[p]?.getD undef = .pointer (some ⟨g, 0, none⟩) := by simpa using hp
  simp [results, hr, hp', asAddr, h.loadVar hu hi]
/-- A struct and one thing more as a call's answer. -/
theorem ret_s2 {fn : Func} {p q : Tmp} {Post : Ending → World → Prop} {fs : Array Field} (h : SBox w g t cs) (hu : P.underlying t = some (.struct fs)) (hi : (P.info? t).map (·.size) = some cs.length) (hd : a.defers = []) (hr : fn.results = #[.cell p t, .tmp q])
    (hp : a.tmps.getD p undef = .pointer (some ⟨g, 0, none⟩)) (v : Value) (hq : a.tmps.getD q undef = v) (hpost : Post (.returned (.tuple #[.agg cs.toArray, v])) w) : bodyPost P fn Post .ret a w := by
  refine bodyPost_ret (v := .tuple #[.agg cs.toArray, v]) ?_ hd hpost
  have hp' : a.tmps[p]?.getD undef = .pointer (some ⟨g, 0, none⟩) := by simpa using hp
  have hq' : a.tmps[q]?.getD undef = v := by simpa using hq
  simp [results, hr, hp', hq', asAddr, h.loadVar hu hi]
theorem res_s2 {fn : Func} {p q : Tmp} {tmps : Array Value} {fs : Array Field} (h : SBox w g t cs) (hu : P.underlying t = some (.struct fs)) (hi : (P.info? t).map (·.size) = some cs.length) (hr : fn.results = #[.cell p t, .tmp q])
    (hp : tmps.getD p undef = .pointer (some ⟨g, 0, none⟩)) (v : Value) (hq : tmps.getD q undef = v) : (results fn tmps).run P w = .ok (.tuple #[.agg cs.toArray, v]) w := by
  have hp' : tmps[p]?.getD undef = .pointer (some ⟨g, 0, none⟩) := by simpa using hp
  have hq' : tmps[q]?.getD undef = v := by simpa using hq
  simp [results, hr, hp', hq', asAddr, h.loadVar hu hi]
end
end Go.Proofs.Ythakkaffjnkhgaa
