/-
  Acts in variables, an act's bytes, 'small', by their contracts. Conditions: none.
-/
import Derived.Test.YtagchbpofoidmaaDoorSecP
namespace Go.Proofs.YtagchbpofoidmaaDoor
open Go.RowKit Go.Maps
set_option maxRecDepth 100000

theorem act_one {w : World} {a : ActD} (h : OkAct w a) : (actV a).all (·.oneCell') = true := by
  obtain ⟨A, n, c, e, _⟩ := h.keep.form
  simp [actV, actL, e, Value.oneCell']
/-- A whole struct out of its cells. -/
theorem loadVar_at {w : World} {t : TypeId} {fs : Array Field} (hu : Tryd.prog.underlying t = some (.struct fs)) {cs : List Value} (hi : (Tryd.prog.info? t).map (·.size) = some cs.length) {b off : Nat} (hc : ∀ i x, cs[i]? = some x → w.cell? ⟨b, off + i, none⟩ = some x) :
    (loadVar t ⟨b, off, none⟩).run Tryd.prog w = .ok (.agg cs.toArray) w := by
  have h1 := run_loadCells_list (P := Tryd.prog) w ⟨b, off, none⟩ cs (fun j v hv => by
    rw [plainAdd]
    exact hc j v hv)
  have hagg : (isAgg t).run Tryd.prog w = .ok true w := by
    unfold isAgg
    rw [Sem.run_bind, run_underlying hu w]
    rfl
  have hsz : (sizeOf t).run Tryd.prog w = .ok cs.length w := by
    cases hq : Tryd.prog.info? t with
    | none => simp [hq] at hi
    | some i => simp [hq] at hi; simp [sizeOf, typeInfo, hq, hi]
  unfold loadVar
  simp only [Sem.run_bind, hagg, Result.andThen_ok, if_true, hsz, h1, Sem.run_pure]
section
variable {ops : Array Oper} {rest : List Oper} {o : Oper} {a : Act} {w : World} {K : Act → World → Prop} {Q : Exit → Act → World → Prop}
theorem exec_loadAt {t : TypeId} {fs : Array Field} (hu : Tryd.prog.underlying t = some (.struct fs)) {cs : List Value} (hi : (Tryd.prog.info? t).map (·.size) = some cs.length) (x : Operand) (ho : o.op = .load t x) (b off : Nat) (hx : a.eval x = .pointer (some ⟨b, off, none⟩))
    (hc : ∀ i y, cs[i]? = some y → w.cell? ⟨b, off + i, none⟩ = some y) : (execOp a.eval o).run Tryd.prog w = .ok (.value (.agg cs.toArray)) w := by
  unfold execOp
  simp only [ho, hx, Instr.loadAt, Instr.sureAddr, Sem.run_bind, Sem.run_pure, Result.andThen_ok, loadVar_at hu hi hc]
theorem wpList_loadAt {t : TypeId} {fs : Array Field} (hu : Tryd.prog.underlying t = some (.struct fs)) {cs : List Value} (hi : (Tryd.prog.info? t).map (·.size) = some cs.length) (hgd : o.guard = none) (x : Operand) (ho : o.op = .load t x) (b off : Nat) (hx : a.eval x = .pointer (some ⟨b, off, none⟩))
    (hc : ∀ i y, cs[i]? = some y → w.cell? ⟨b, off + i, none⟩ = some y) (hK : wpList Tryd.prog ops Q rest (a.put o.dst (.agg cs.toArray)) w) : wpList Tryd.prog ops Q (o :: rest) a w := by
  refine wpList_plain hgd fun K hk => ?_
  unfold Oper.wp
  rw [exec_loadAt hu hi x ho b off hx hc]
  exact hk _ _ hK
end
def actB (a : ActD) : List UInt8 := (rowB a.v).set a.b.toNat a.b
theorem actB_len (a : ActD) : (actB a).length = 512 := by unfold actB; rw [List.length_set, rowB_len]
def smallA (n : Nat) (f : Nat → ActD) : Prop := n ≤ 80 ∧ ∀ j, j < n → (f j).keep.length ≤ 100
def Smalled (w : World) (n : Nat) (f : Nat → ActD) (e : Ending) (w' : World) : Prop := ∃ b, e = .returned (.bool b) ∧ (b = true ↔ smallA n f) ∧ Below w.heap.size w w'
def SmallRel (w : World) (n : Nat) (f : Nat → ActD) (i : Value) (wr : World) : Prop := ∃ k : Nat, k ≤ n ∧ k ≤ 81 ∧ i = .int .i64 (k : Int) ∧ (∀ j, j < k → (f j).keep.length ≤ 100) ∧ Below w.heap.size w wr
theorem light_next {f : Nat → ActD} {k : Nat} (h : ∀ j, j < k → (f j).keep.length ≤ 100) (hk : (f k).keep.length ≤ 100) : ∀ j, j < k + 1 → (f j).keep.length ≤ 100 := by
  intro j hj
  by_cases h' : j < k
  · exact h j h'
  · obtain rfl : j = k := by omega
    exact hk
end Go.Proofs.YtagchbpofoidmaaDoor
