/-
  Rows of noughts; structs loaded from and stored into a row, whole. Conditions: none.
-/
import Derived.Test.YthakkaffjnkhgaaRowq
import Derived.Test.YthakkaffjnkhgaaSecB
namespace Go.Proofs.Ythakkaffjnkhgaa
open Go.RowKit Go.Maps
set_option maxRecDepth 100000

/-- A row that was just laid. -/
theorem Rowz.litF (w : World) (vs : List Value) (t : TypeId) (fz : Nat × Nat) (hl : vs.length ≤ maxLen) : Rowz (w.alloc (.cells vs.toArray t fz)) (.slice (some ⟨w.heap.size, 0, none⟩) vs.length vs.length) vs := by
  refine ⟨_, _, rfl, Nat.le_refl _, hl, .inr ⟨w.heap.size, 0, rfl, by simp, fun j hj => ?_⟩⟩
  rw [cell_of_row _ _ _ _ _ _ (heap_alloc_new w _)]
  simp [hj]
section
variable {P : Program}
/-- Cells laid down one behind the other, from j on. -/
def putAll : Array Value → Nat → List Value → Array Value
  | cur, _, [] => cur
  | cur, j, v :: vs => putAll (cur.setIfInBounds j v) (j + 1) vs
theorem setRow_self {w : World} {g : Nat} {cur : Array Value} {t : TypeId} (hg : w.heap[g]? = some (.cells cur t (0, 0))) : w.setRow g cur = w := by
  have hlt : g < w.heap.size := (Array.getElem?_eq_some_iff.1 hg).1
  have hv : w.heap[g] = .cells cur t (0, 0) := (Array.getElem?_eq_some_iff.1 hg).2
  unfold World.setRow
  cases w with
  | mk heap tape drawn os output =>
    congr 1
    apply Array.ext
    · simp
    · intro k h1 h2
      simp only [Array.getElem_modify]
      split
      · rename_i hk; subst hk; simp at hv; simp [hv]
      · rfl
theorem storeCells_at (g off : Nat) (t : TypeId) : ∀ (vs : List Value) (i : Nat) (cur : Array Value) (w : World), w.heap[g]? = some (.cells cur t (0, 0)) → off + i + vs.length ≤ cur.size → (∀ v ∈ vs, v.oneCell' = true) →
    (storeCells ⟨g, off, none⟩ vs i).run P w = .ok () (w.setRow g (putAll cur (off + i) vs))
  | [], i, cur, w, hg, _, _ => by
    simp only [storeCells, putAll, setRow_self hg]
    rfl
  | v :: rest, i, cur, w, hg, hl, h1 => by
    have hi : off + i < cur.size := by simp at hl; omega
    have hcell : w.cell? ⟨g, off + i, none⟩ = some cur[off + i] := by simp [World.cell?, hg, hi]
    have hfro : w.frozen? ⟨g, off + i, none⟩ = false := by simp [World.frozen?, hg]
    have hst : (store ((⟨g, off, none⟩ : Addr).add i) v).run P w = .ok () (w.setRow g (cur.setIfInBounds (off + i) v)) := by
      rw [plainAdd, run_store P w _ v _ (h1 v (by simp)), hcell]
      simp [hfro, setCell_eq_setRow w g (off + i) cur t (0, 0) v hg]
    have ih := storeCells_at g off t rest (i + 1) (cur.setIfInBounds (off + i) v) (w.setRow g (cur.setIfInBounds (off + i) v)) (setRow_heap w g cur _ t _ hg) (by simp at hl ⊢; omega) (fun x hx => h1 x (by simp [hx]))
    simp only [storeCells, Sem.run_bind, hst, Result.andThen_ok, ih, setRow_setRow, putAll, Nat.add_assoc]
end
theorem putAll_size : ∀ (vs : List Value) (cur : Array Value) (j : Nat), (putAll cur j vs).size = cur.size
  | [], _, _ => rfl
  | v :: vs, cur, j => by rw [putAll, putAll_size vs]; simp
theorem putAll_get : ∀ (vs : List Value) (cur : Array Value) (j q : Nat), (putAll cur j vs)[q]? = if j ≤ q ∧ q < j + vs.length ∧ q < cur.size then vs[q - j]? else cur[q]?
  | [], cur, j, q => by rw [putAll, if_neg (by simp; omega)]
  | v :: vs, cur, j, q => by
    rw [putAll, putAll_get vs, Array.size_setIfInBounds, List.length_cons]
    by_cases h : j + 1 ≤ q ∧ q < j + 1 + vs.length ∧ q < cur.size
    · rw [if_pos h, if_pos (by omega), show q - j = (q - (j + 1)) + 1 by omega, List.getElem?_cons_succ]
    · rw [if_neg h, Array.getElem?_setIfInBounds]
      by_cases e : j = q
      · subst e
        rw [if_pos rfl]
        by_cases hq : j < cur.size
        · rw [if_pos hq, if_pos (by omega), Nat.sub_self, List.getElem?_cons_zero]
        · rw [if_neg hq, if_neg (by omega), Array.getElem?_eq_none (by omega)]
      · rw [if_neg e, if_neg (by omega)]
theorem putAll_all (vs : List Value) (cur : Array Value) (h : vs.length = cur.size) : putAll cur 0 vs = vs.toArray := by
  apply Array.ext_getElem?
  intro q
  rw [putAll_get]
  by_cases hq : q < cur.size
  · rw [if_pos ⟨by omega, by omega, hq⟩, Nat.sub_zero]
    simp
  · rw [if_neg (by omega), Array.getElem?_eq_none (by omega), Array.getElem?_eq_none (by rw [List.size_toArray]; omega)]
section
variable {ops : Array Oper} {rest : List Oper} {o : Oper} {a : Act} {w : World} {K : Act → World → Prop} {Q : Exit → Act → World → Prop}
/-- A whole struct out of its cells. -/
theorem loadVar_at {w : World} {t : TypeId} {fs : Array Field} (hu : Try.prog.underlying t = some (.struct fs)) {cs : List Value} (hi : (Try.prog.info? t).map (·.size) = some cs.length) {b off : Nat} (hc : ∀ i x, cs[i]? = some x → w.cell? ⟨b, off + i, none⟩ = some x) :
    (loadVar t ⟨b, off, none⟩).run Try.prog w = .ok (.agg cs.toArray) w := by
  have h1 := run_loadCells_list (P := Try.prog) w ⟨b, off, none⟩ cs (fun j v hv => by
    rw [plainAdd]
    exact hc j v hv)
  have hagg : (isAgg t).run Try.prog w = .ok true w := by
    unfold isAgg
    rw [Sem.run_bind, run_underlying hu w]
    rfl
  have hsz : (sizeOf t).run Try.prog w = .ok cs.length w := by
    cases hq : Try.prog.info? t with
    | none => simp [hq] at hi
    | some i => simp [hq] at hi; simp [sizeOf, typeInfo, hq, hi]
  unfold loadVar
  simp only [Sem.run_bind, hagg, Result.andThen_ok, if_true, hsz, h1, Sem.run_pure]
theorem exec_loadAt {t : TypeId} {fs : Array Field} (hu : Try.prog.underlying t = some (.struct fs)) {cs : List Value} (hi : (Try.prog.info? t).map (·.size) = some cs.length) (x : Operand) (ho : o.op = .load t x) (b off : Nat) (hx : a.eval x = .pointer (some ⟨b, off, none⟩))
    (hc : ∀ i y, cs[i]? = some y → w.cell? ⟨b, off + i, none⟩ = some y) : (execOp a.eval o).run Try.prog w = .ok (.value (.agg cs.toArray)) w := by
  unfold execOp
  simp only [ho, hx, Instr.loadAt, Instr.sureAddr, Sem.run_bind, Sem.run_pure, Result.andThen_ok, loadVar_at hu hi hc]
theorem wpList_loadAt {t : TypeId} {fs : Array Field} (hu : Try.prog.underlying t = some (.struct fs)) {cs : List Value} (hi : (Try.prog.info? t).map (·.size) = some cs.length) (hgd : o.guard = none) (x : Operand) (ho : o.op = .load t x) (b off : Nat) (hx : a.eval x = .pointer (some ⟨b, off, none⟩))
    (hc : ∀ i y, cs[i]? = some y → w.cell? ⟨b, off + i, none⟩ = some y) (hK : wpList Try.prog ops Q rest (a.put o.dst (.agg cs.toArray)) w) : wpList Try.prog ops Q (o :: rest) a w := by
  refine wpList_plain hgd fun K hk => ?_
  unfold Oper.wp
  rw [exec_loadAt hu hi x ho b off hx hc]
  exact hk _ _ hK
end
theorem setRow_trn (w : World) (g : Nat) (cs : Array Value) : Trn (fun k => k = g) w (w.setRow g cs) :=
  ⟨rfl, rfl, rfl, by simp [World.setRow], fun k _ hk => by
    simp only [World.setRow]
    rw [Array.getElem?_modify, if_neg (by omega)]⟩
theorem ownsRow_sameB {w w' : World} {B : Nat} {e : TypeId} {v : Value} {n : Nat} {xs : List Value} (h : w.ownsRow B e 1 v n xs) (hb : ∀ k, v.ownBlock = some k → w'.heap[k]? = w.heap[k]?) : w'.ownsRow B e 1 v n xs := by
  refine ⟨h.1, ?_⟩
  rcases h.2 with ⟨rfl, h0⟩ | ⟨g, cap, cur, rfl, hle, hg, r⟩
  · exact .inl ⟨rfl, h0⟩
  · exact .inr ⟨g, cap, cur, rfl, hle, (hb g rfl).trans hg, r⟩
theorem pgslice1 (g a : Nat) (ha : a < 4096) : ∀ W, (Instr.slice 30 (.slice (some ⟨g, 0, none⟩) 4096 4096) (some (.int .i64 (a : Int))) none none).run Try.prog W = .ok (.slice (some ⟨g, a, none⟩) (4096 - a) (4096 - a)) W := by
  intro W
  rw [run_slice_l W 30 _ 4096 4096 elemByte .i64 (a : Int) (by omega) (by omega), sizeByte]
  simp only [Result.andThen, sliced, Int.toNat_natCast]
  rw [if_neg (by omega)]
  simp [plainAdd]

end Go.Proofs.Ythakkaffjnkhgaa
