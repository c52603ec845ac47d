/-
  A region whose order forks (as in RtI, for programs without root; never import both). Over any program. Conditions: none.
-/
import Derived.Test.YtncjobeahpjnpaaOrd
import Derived.Test.YtncjobeahpjnpaaOrdT
namespace Go.Proofs.Ytncjobeahpjnpaa
open Go
set_option maxRecDepth 100000

/-! A region whose order forks. -/
section
variable {P : Program} {ops : Array Oper} {Q : Exit → Act → World → Prop} {md : Region.Mode} {R : World → World → Prop}
/-- A schedule's beginning. -/
def schedTo (md : Region.Mode) (ops : Array Oper) : List (Nat × Bool) → Array Bool → Bool
  | [], _ => true
  | (i, b) :: rest, listed => (if b then Region.ready md ops listed == [i] else Region.free md ops listed i && (Region.ready md ops listed).contains i) && schedTo md ops rest (listed.setIfInBounds i true)
def listTo : List (Nat × Bool) → Array Bool → Array Bool
  | [], listed => listed
  | (i, _) :: rest, listed => listTo rest (listed.setIfInBounds i true)
def wpSchL (P : Program) (ops : Array Oper) (Q : Exit → Act → World → Prop) (R : World → World → Prop) (L : Act → World → Prop) : List (Oper × Bool) → Act → World → Prop
  | [], a, w => L a w
  | (o, true) :: rest, a, w => if Region.wanted o (yielded ops a.tmps) then o.wp P a w (fun a' w' => R w w' ∧ wpSchL P ops Q R L rest a' w') Q else wpSchL P ops Q R L rest (a.put o.dst undef) w
  | (o, false) :: rest, a, w => ∃ v, YieldsIf P ops (R w) o v a ∧ wpSchL P ops Q R L rest (a.put o.dst v) w
theorem held_of_schL (hRf : ∀ x, R x x) (hT : ∀ {x y z}, R x y → R y z → R x z) (hs : Region.noSelect ops = true)
    (hQ : ∀ d v c a w, Q (.panic c) (Act.put a d v) w → Q (.panic c) a w) (fuel : Nat) {L : Act → World → Prop} :
    ∀ (l : List (Nat × Bool)) (listed : Array Bool) (a : Act) (w : World), l.all (fun x => decide (x.1 < ops.size)) = true → schedTo md ops l listed = true →
      (∀ a' w', L a' w' → wpAnyH P md ops Q (R w') fuel (listTo l listed) a' w') → wpSchL P ops Q R L (sel ops l) a w → wpAnyH P md ops Q (R w) (l.length + fuel) listed a w := by
  intro l
  induction l with
  | nil =>
    intro listed a w _ _ hL h
    rw [List.length_nil, Nat.zero_add]
    exact hL a w h
  | cons x l ih =>
    obtain ⟨i, b⟩ := x
    intro listed a w hin hok hL h
    simp only [List.all_cons, Bool.and_eq_true, decide_eq_true_eq] at hin
    obtain ⟨hi, hr⟩ := hin
    obtain ⟨o, ho⟩ : ∃ o, ops[i]? = some o := ⟨_, Array.getElem?_eq_getElem hi⟩
    rw [sel_cons ops i b l o ho] at h
    simp only [schedTo, Bool.and_eq_true] at hok
    obtain ⟨hk, hok⟩ := hok
    rw [List.length_cons, show l.length + 1 + fuel = (l.length + fuel) + 1 by omega]
    cases b with
    | false =>
      simp only [Bool.false_eq_true, if_false, Bool.and_eq_true] at hk
      obtain ⟨v, hy, h⟩ := h
      exact wpAnyH_take ho hs hk.1 hk.2 (fun c a w => hQ _ _ c a w) hy (hRf w) (ih _ _ _ hr hok hL h)
    | true =>
      simp only [if_true, beq_iff_eq] at hk
      refine ⟨fun h0 => (by rw [hk] at h0; cases h0), fun j hj => ?_⟩
      rw [hk] at hj
      have : j = i := by simpa using hj
      subst this
      unfold wpOp
      simp only [ho]
      unfold wpSchL at h
      by_cases hw : Region.wanted o (yielded ops a.tmps) = true
      · rw [if_pos hw] at h ⊢
        exact .inl (Oper.wp_mono (fun a' w' h' => ⟨h'.1, held_mono (fun u hu => hT h'.1 hu) _ _ _ _ (ih _ _ _ hr hok hL h'.2)⟩) h)
      · rw [if_neg hw] at h ⊢
        exact ⟨hRf w, ih _ _ _ hr hok hL h⟩
/-- Two operations may come up: each does. -/
theorem held_fork (hT : ∀ {x y z}, R x y → R y z → R x z) {fuel i j : Nat} {listed : Array Bool} {a : Act} {w : World} {oi oj : Oper} (hr : Region.ready md ops listed = [i, j]) (hi : ops[i]? = some oi) (hj : ops[j]? = some oj)
    (hwi : Region.wanted oi (yielded ops a.tmps) = true) (hwj : Region.wanted oj (yielded ops a.tmps) = true)
    (h1 : ∀ K : Act → World → Prop, (∀ a' w', R w w' → wpAnyH P md ops Q (R w') fuel (listed.setIfInBounds i true) a' w' → K a' w') → oi.wp P a w K Q)
    (h2 : ∀ K : Act → World → Prop, (∀ a' w', R w w' → wpAnyH P md ops Q (R w') fuel (listed.setIfInBounds j true) a' w' → K a' w') → oj.wp P a w K Q) : wpAnyH P md ops Q (R w) (fuel + 1) listed a w := by
  refine ⟨fun h0 => (by rw [hr] at h0; cases h0), fun k hk => ?_⟩
  rw [hr] at hk
  rcases List.mem_cons.1 hk with rfl | hk
  · unfold wpOp
    simp only [hi]
    rw [if_pos hwi]
    exact .inl (h1 _ fun a' w' r h => ⟨r, held_mono (fun u hu => hT r hu) _ _ _ _ h⟩)
  · have : k = j := by simpa using hk
    subst this
    unfold wpOp
    simp only [hj]
    rw [if_pos hwj]
    exact .inl (h2 _ fun a' w' r h => ⟨r, held_mono (fun u hu => hT r hu) _ _ _ _ h⟩)
/-! The moves. -/
theorem schL_nil {L : Act → World → Prop} {a : Act} {w : World} (h : L a w) : wpSchL P ops Q R L [] a w := h
theorem schL_take {L : Act → World → Prop} {o : Oper} {rest : List (Oper × Bool)} {a : Act} {w : World} (v : Value) (hw : Region.wanted o (yielded ops a.tmps) = true)
    (hv : ∀ u, R w u → (execOp a.eval o).run P u = .ok (.value v) u) (h : wpSchL P ops Q R L rest (a.put o.dst v) w) : wpSchL P ops Q R L ((o, false) :: rest) a w :=
  ⟨v, .inl ⟨hw, hv⟩, h⟩
theorem schL_call {L : Act → World → Prop} {o : Oper} {rest : List (Oper × Bool)} {a : Act} {w : World} (hw : Region.wanted o (yielded ops a.tmps) = true)
    (h : ∀ K : Act → World → Prop, (∀ a' w', R w w' → wpSchL P ops Q R L rest a' w' → K a' w') → o.wp P a w K Q) : wpSchL P ops Q R L ((o, true) :: rest) a w := by
  unfold wpSchL
  rw [if_pos hw]
  exact h _ fun a' w' h1 h2 => ⟨h1, h2⟩
/-- THE BEGINNING: a part of the operations by a schedule, then L. -/
theorem wp_region_L {id : Nat} {a : Act} {w : World} (hm : P.follows .mixedOrders = true) (hRf : ∀ x, R x x) (hT : ∀ {x y z}, R x y → R y z → R x z) (hs : Region.noSelect ops = true)
    (hQ : ∀ d v c a w, Q (.panic c) (Act.put a d v) w → Q (.panic c) a w) (l : List (Nat × Bool)) (fuel : Nat) (hl : l.length + fuel = ops.size) (hok : schedTo .any ops l (Array.replicate ops.size false) = true)
    (hin : l.all (fun x => decide (x.1 < ops.size)) = true) {L : Act → World → Prop} (hL : ∀ a' w', L a' w' → wpAnyH P .any ops Q (R w') fuel (listTo l (Array.replicate ops.size false)) a' w') (h : wpSchL P ops Q R L (sel ops l) a w.drew) : (Code.region id ops true).wp P Q a w := by
  refine wp_region_held (S := R w.drew) hm ?_
  have := held_of_schL (P := P) (md := .any) (R := R) hRf hT hs hQ fuel l (Array.replicate ops.size false) a w.drew hin hok hL h
  rw [hl] at this
  exact this
end
end Go.Proofs.Ytncjobeahpjnpaa
