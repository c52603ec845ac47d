/-
  A table that came in as an argument, opened; two tables compared. Conditions: none.
-/
import Derived.Test.YthabjfnaghdenaaOn
import Derived.Test.YthabjfnaghdenaaOpen
import Derived.ChangeKeysEq
import Derived.Laws.StructEq
namespace Go.Proofs.Ythabjfnaghdenaa
open Go.ChangeShapes Go.WideShapes Go.ChangeAt Go.RowKit

theorem plain32 : Try.prog.plainKey 23 = true := by kernel_rfl
theorem cells32 : Try.prog.cellsOf 23 = 1 := by kernel_rfl
theorem eq_items (w : World) (d : Nat) (xs : Array Value) (hxs : ∀ i, i < 256 → ∃ z, xs[i]? = some (.int .u32 z)) : ∀ is : List Nat, (∀ i ∈ is, i < 256) →
    (Op.eqItems (d + 1) 23 (Try.prog.cellsOf 23) xs xs is).run Try.prog w = .ok true w
  | [], _ => by simp [Op.eqItems]
  | i :: is, h => by
    obtain ⟨z, hz⟩ := hxs i (h i (by simp))
    have hz' : xs[i * Try.prog.cellsOf 23]? = some (.int .u32 z) := by rw [cells32, Nat.mul_one]; exact hz
    have ih := eq_items w d xs hxs is (fun j hj => h j (by simp [hj]))
    simp only [Op.eqItems, Sem.run_bind, run_part_plain w plain32 hz', run_equalIn_int w d 23 .u32 .u32 z z Try.underlying23, Result.andThen_ok, beq_self_eq_true]
    simp [ih]
theorem tab_equal (w : World) (t : List Nat) (ht : t.length = 256) : (binOp .eql 25 (.agg (tabV t)) (.agg (tabV t))).run Try.prog w = .ok (.bool true) w := by
  have hi : ∃ i, Try.prog.info? 23 = some i := info_of_underlying Try.underlying23
  obtain ⟨i, hi⟩ := hi
  rw [run_eql_struct, show (10000 : Nat) = 9998 + 1 + 1 from rfl, run_equalIn_array w (9998 + 1) _ _ Try.underlying25 hi, eq_items w 9998 (tabV t) (fun i hi => ⟨(t.getD i 0 : Int), by simp [tabV, ht, hi]⟩) _ (fun i hi => List.mem_range.1 hi)]
  rfl
theorem tab_guards : Try.prog.eqGuardType Try.prog.depth 25 = false := by kernel_rfl
theorem tab_guard (w : World) (x y : Operand) (a b : Array Value) : (eqGuard .eql 25 x y (.agg a) (.agg b)).run Try.prog w = .ok () w :=
  run_eqGuard_agg w .eql 25 x y a b tab_guards
theorem exec_eqTab {a : Act} {o : Oper} {u : World} (x y : Operand) (ht' : o.op = .binOp .eql 25 x y 25) {t : List Nat} (hx : a.eval x = .agg (tabV t)) (hy : a.eval y = .agg (tabV t)) (ht : t.length = 256) :
    (execOp a.eval o).run Try.prog u = .ok (.value (.bool true)) u := by
  unfold execOp
  simp only [ht', hx, hy, Sem.run_bind, tab_guard, tab_equal u t ht, Result.andThen_ok, Sem.run_pure]

/-- A table that came in. -/
theorem open_tab {H : Type} {enc : TypeId × Value → H} {W : World} {base : Nat} {v : Value} {d : DataW H} {p : List MemPlace}
    (hv : Value.okWide Try.prog W .any base 25 v) (h : DataW.Trod enc Try.prog W 0 (fun _ => true) true 25 v d p) : ∃ t, v = .agg (tabV t) ∧ Tab t := by
  unfold Value.okWide at hv
  simp only [Try.underlying25] at hv
  obtain ⟨cs, rfl, hsz, _⟩ := hv
  have hc1 : Try.prog.cellsOf 23 = 1 := by kernel_rfl
  have hc2 : Try.prog.cellsOf 25 = 256 := by kernel_rfl
  obtain ⟨fuel, hf⟩ := h
  obtain ⟨xs, m, _, _, hl, hxl, hget⟩ := DataW.trod_array Try.underlying25 hf
  have hlen : cs.toList.length = 256 := by simpa [Value.cells, hc2] using hl
  have hel : ∀ i (hi : i < 256), ∃ z : Nat, z < 4294967296 ∧ cs.toList[i]'(by omega) = .int .u32 (z : Int) := by
    intro i hi
    have h1 := hget i hi
    obtain ⟨y, hy⟩ : ∃ y, xs[i]? = some y := ⟨xs[i]'(by omega), List.getElem?_eq_getElem (by omega)⟩
    rw [hy, hc1, Nat.mul_one] at h1
    obtain ⟨z, hcz, _, hw⟩ := DataW.trod_int Try.underlying23 h1
    obtain ⟨n, rfl, hn⟩ := open_u32 hw
    refine ⟨n, hn, ?_⟩
    have h2 : cs.toList[i]? = some (.int .u32 (n : Int)) := by
      have := congrArg (·[0]?) hcz
      simpa [Value.cells, List.getElem?_take, List.getElem?_drop] using this
    exact (List.getElem?_eq_some_iff.1 h2).2
  refine ⟨cs.toList.map fun v => (intOf v).toNat, ?_, by simpa using hlen, fun x hx => ?_⟩
  · congr 1
    apply Array.toList_inj.1
    apply List.ext_getElem
    · simp [tabV]
    · intro i h1 h2
      have hi : i < 256 := by rw [hlen] at h1; exact h1
      obtain ⟨z, hz, he⟩ := hel i hi
      simp only [tabV, List.map_map, List.getElem_map, Function.comp]
      rw [he]
      simp [intOf]
  · simp only [List.mem_map] at hx
    obtain ⟨v, hv, rfl⟩ := hx
    obtain ⟨i, hi, rfl⟩ := List.getElem_of_mem hv
    obtain ⟨z, hz, he⟩ := hel i (by rw [hlen] at hi; exact hi)
    rw [he]
    simpa [intOf] using hz
end Go.Proofs.Ythabjfnaghdenaa
