/-
  The texts Mach in one. Conditions: as each part says.
-/
import Derived.Test.YtknagdbhhfelnaaDoorMg1
import Derived.RegionTactic
/-
  Regions whose order is open, as machines: an invariant that every operation that may come up keeps, or leaves for good. Over any program. Conditions: none.
-/
namespace Go.Proofs.YtknagdbhhfelnaaDoor
open Go Go.RowKit
set_option maxRecDepth 100000

theorem ev_ne {a : Act} {d k : Nat} {v : Value} (h : d ≠ k) : (a.put (some d) v).eval (.tmp k) = a.eval (.tmp k) := by
  simp [Act.put, Act.eval, Array.getD_eq_getD_getElem?, h]
theorem ev_eq {a : Act} {d : Nat} {v : Value} (h : d < a.tmps.size) : (a.put (some d) v).eval (.tmp d) = v := by
  simp [Act.put, Act.eval, Array.getD_eq_getD_getElem?, h]
theorem wanted_plain {o : Oper} (h : o.guard = none) (y : Nat → Option Bool) : Region.wanted o y = true := by unfold Region.wanted; rw [h]
/-- One operation of a region, by its plain form. -/
def OpAt (ops : Array Oper) (i : Nat) (op : Op) (d : Option Nat) : Prop := ∃ o, ops[i]? = some o ∧ o.op = op ∧ o.dst = d ∧ o.guard = none
section
variable {P : Program} {md : Region.Mode} {ops : Array Oper} {Q : Exit → Act → World → Prop}
theorem OpAt.wp {i : Nat} {op : Op} {d : Option Nat} (h : OpAt ops i op d) {K : Act → World → Prop} {a : Act} {u : World} (hh : ∀ o : Oper, o.op = op → o.dst = d → o.wp P a u K Q) : wpOp P ops Q i K a u := by
  obtain ⟨o, h1, h2, h3, h4⟩ := h
  refine wpOp_step h1 (fun K' hK => ?_)
  rw [if_pos (wanted_plain h4 _)]
  exact Oper.wp_mono hK (hh o h2 h3)
/-- A region as a machine: an invariant that every operation that may come up keeps, or leaves for good. -/
theorem mach {I : Nat → Array Bool → Act → World → Prop}
    (hs : ∀ k L a u, I k L a u → ∃ k' rs, k = k' + 1 ∧ Region.ready md ops L = rs ∧ rs ≠ [] ∧ ∀ i ∈ rs, wpOp P ops Q i (fun a' u' => I k' (L.setIfInBounds i true) a' u' ∨ wpAny P md ops Q k' (L.setIfInBounds i true) a' u') a u) :
    ∀ k L a u, I k L a u → wpAny P md ops Q k L a u := by
  intro k
  induction k with
  | zero =>
    intro L a u h
    obtain ⟨k', rs, e, _⟩ := hs 0 L a u h
    omega
  | succ k ih =>
    intro L a u h
    obtain ⟨k', rs, e, hr, hne, hall⟩ := hs _ L a u h
    obtain rfl : k' = k := by omega
    exact wpAny_all hr hne (fun i hi => wpOp_mono (fun a' u' h' => h'.elim (ih _ a' u') id) (hall i hi))
theorem one_op {i : Nat} {L : Array Bool} {a : Act} {u : World} {fuel : Nat} (hr : Region.ready md ops L = [i]) (h : wpOp P ops Q i (wpAny P md ops Q fuel (L.setIfInBounds i true)) a u) : wpAny P md ops Q (fuel + 1) L a u :=
  wpAny_all hr (by simp) (fun j hj => by obtain rfl : j = i := List.mem_singleton.1 hj; exact h)
end
theorem take_plain {P : Program} {md : Region.Mode} {ops : Array Oper} {Q : Exit → Act → World → Prop} (i d : Nat) {oi : Oper} (v : Value) {fuel : Nat} {listed : Array Bool} {a : Act} {w : World} (hi : ops[i]? = some oi) (hd : oi.dst = some d)
    (hs : Region.noSelect ops = true) (hf : Region.free md ops listed i = true) (hr : (Region.ready md ops listed).contains i = true) (hQ : ∀ c a w, Q (.panic c) (a.put (some d) v) w → Q (.panic c) a w)
    (hw : Region.wanted oi (yielded ops a.tmps) = true) (hy : ∀ w, (execOp a.eval oi).run P w = .ok (.value v) w) (h : wpAny P md ops Q fuel (listed.setIfInBounds i true) (a.put (some d) v) w) : wpAny P md ops Q (fuel + 1) listed a w :=
  wpAny_take hi hs hf hr (by rw [hd]; exact hQ) (.inl ⟨hw, hy⟩) (by rw [hd]; exact h)
theorem any_lst {P : Program} {md : Region.Mode} {ops : Array Oper} {Q : Exit → Act → World → Prop} {fuel : Nat} {L L' : Array Bool} {a : Act} {w : World} (h : L = L') (hh : wpAny P md ops Q fuel L' a w) : wpAny P md ops Q fuel L a w := h ▸ hh
end Go.Proofs.YtknagdbhhfelnaaDoor

