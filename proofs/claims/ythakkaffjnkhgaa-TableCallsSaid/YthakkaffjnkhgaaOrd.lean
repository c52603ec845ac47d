/-
  Regions whose order is open, told by a relation between worlds: an operation that answers the same in every later world is taken first; a call that alone is left to come up comes up. Over any program. Conditions: the relation is reflexive and transitive.
-/
import Derived.Test.YthakkaffjnkhgaaRows
import Derived.WalkKit
import Derived.OrdersHeld
namespace Go.Proofs.Ythakkaffjnkhgaa
open Go
set_option maxRecDepth 100000

section
variable {P : Program} {ops : Array Oper} {Q : Exit → Act → World → Prop} {md : Region.Mode} {R : World → World → Prop}

/-- Under a narrower condition on the worlds it holds all the more. -/
theorem held_mono {S S' : World → Prop} (hS : ∀ w, S' w → S w) : ∀ (fuel : Nat) (listed : Array Bool) (a : Act) (w : World), wpAnyH P md ops Q S' fuel listed a w → wpAnyH P md ops Q S fuel listed a w
  | 0, _, _, _, h => h
  | fuel + 1, _, _, _, h => ⟨h.1, fun i hi => wpOp_mono (fun a' w' h' => ⟨hS w' h'.1, held_mono hS fuel _ a' w' h'.2⟩) (h.2 i hi)⟩

/-- A schedule: which operation is taken next; 'true': it is a call, and alone may come up. -/
def schedOk (md : Region.Mode) (ops : Array Oper) : List (Nat × Bool) → Array Bool → Bool
  | [], listed => Region.ready md ops listed == []
  | (i, b) :: rest, listed => (if b then Region.ready md ops listed == [i] else Region.free md ops listed i && (Region.ready md ops listed).contains i) && schedOk md ops rest (listed.setIfInBounds i true)

/-- The walk along a schedule, the operations themselves. -/
def wpSch (P : Program) (ops : Array Oper) (Q : Exit → Act → World → Prop) (R : World → World → Prop) : List (Oper × Bool) → Act → World → Prop
  | [], a, w => Q .normal a w
  | (o, true) :: rest, a, w => if Region.wanted o (yielded ops a.tmps) then o.wp P a w (fun a' w' => R w w' ∧ wpSch P ops Q R rest a' w') Q else wpSch P ops Q R rest (a.put o.dst undef) w
  | (o, false) :: rest, a, w => ∃ v, YieldsIf P ops (R w) o v a ∧ wpSch P ops Q R rest (a.put o.dst v) w

/-- The operations that a schedule names. -/
def sel (ops : Array Oper) : List (Nat × Bool) → List (Oper × Bool)
  | [] => []
  | (i, b) :: rest => match ops[i]? with
    | some o => (o, b) :: sel ops rest
    | none => []
theorem sel_cons (ops : Array Oper) (i : Nat) (b : Bool) (rest : List (Nat × Bool)) (o : Oper) (h : ops[i]? = some o) : sel ops ((i, b) :: rest) = (o, b) :: sel ops rest := by
  simp [sel, h]

theorem held_of_sch (hRf : ∀ x, R x x) (hT : ∀ {x y z}, R x y → R y z → R x z) (hs : Region.noSelect ops = true)
    (hQ : ∀ d v c a w, Q (.panic c) (Act.put a d v) w → Q (.panic c) a w) :
    ∀ (l : List (Nat × Bool)) (listed : Array Bool) (a : Act) (w : World), l.all (fun x => decide (x.1 < ops.size)) = true → schedOk md ops l listed = true → wpSch P ops Q R (sel ops l) a w → wpAnyH P md ops Q (R w) l.length listed a w := by
  intro l
  induction l with
  | nil =>
    intro listed a w _ hok h
    exact ⟨by simpa [schedOk] using hok, h⟩
  | cons x l ih =>
    obtain ⟨i, b⟩ := x
    intro listed a w hin hok h
    simp only [List.all_cons, Bool.and_eq_true, decide_eq_true_eq] at hin
    obtain ⟨hi, hr⟩ := hin
    obtain ⟨o, ho⟩ : ∃ o, ops[i]? = some o := ⟨_, Array.getElem?_eq_getElem hi⟩
    rw [sel_cons ops i b l o ho] at h
    simp only [schedOk, Bool.and_eq_true] at hok
    obtain ⟨hk, hok⟩ := hok
    cases b with
    | false =>
      simp only [Bool.false_eq_true, if_false, Bool.and_eq_true] at hk
      obtain ⟨v, hy, h⟩ := h
      exact wpAnyH_take ho hs hk.1 hk.2 (fun c a w => hQ _ _ c a w) hy (hRf w) (ih _ _ _ hr hok h)
    | true =>
      simp only [if_true, beq_iff_eq] at hk
      refine ⟨fun h0 => (by rw [hk] at h0; cases h0), fun j hj => ?_⟩
      rw [hk] at hj
      have : j = i := by simpa using hj
      subst this
      unfold wpOp
      simp only [ho]
      unfold wpSch at h
      by_cases hw : Region.wanted o (yielded ops a.tmps) = true
      · rw [if_pos hw] at h ⊢
        exact .inl (Oper.wp_mono (fun a' w' h' => ⟨h'.1, held_mono (fun u hu => hT h'.1 hu) _ _ _ _ (ih _ _ _ hr hok h'.2)⟩) h)
      · rw [if_neg hw] at h ⊢
        exact ⟨hRf w, ih _ _ _ hr hok h⟩

/-- THE BEGINNING. -/
theorem wp_region_R {id : Nat} {a : Act} {w : World} (hm : P.follows .mixedOrders = true) (hRf : ∀ x, R x x) (hT : ∀ {x y z}, R x y → R y z → R x z) (hs : Region.noSelect ops = true)
    (hQ : ∀ d v c a w, Q (.panic c) (Act.put a d v) w → Q (.panic c) a w) (l : List (Nat × Bool)) (hl : l.length = ops.size) (hok : schedOk .any ops l (Array.replicate ops.size false) = true)
    (hin : l.all (fun x => decide (x.1 < ops.size)) = true) (h : wpSch P ops Q R (sel ops l) a w.drew) : (Code.region id ops true).wp P Q a w := by
  refine wp_region_held (S := R w.drew) hm ?_
  have := held_of_sch (P := P) (md := .any) (R := R) hRf hT hs hQ l (Array.replicate ops.size false) a w.drew hin hok h
  rw [hl] at this
  exact this

/-! The moves. -/
theorem sch_nil {a : Act} {w : World} (h : Q .normal a w) : wpSch P ops Q R [] a w := h
theorem sch_take {o : Oper} {rest : List (Oper × Bool)} {a : Act} {w : World} (v : Value) (hw : Region.wanted o (yielded ops a.tmps) = true)
    (hv : ∀ u, R w u → (execOp a.eval o).run P u = .ok (.value v) u) (h : wpSch P ops Q R rest (a.put o.dst v) w) : wpSch P ops Q R ((o, false) :: rest) a w :=
  ⟨v, .inl ⟨hw, hv⟩, h⟩
theorem sch_idle {o : Oper} {rest : List (Oper × Bool)} {a : Act} {w : World} (hw : Region.wanted o (yielded ops a.tmps) = false)
    (h : wpSch P ops Q R rest (a.put o.dst undef) w) : wpSch P ops Q R ((o, false) :: rest) a w :=
  ⟨undef, .inr ⟨hw, rfl⟩, h⟩
theorem sch_idleC {o : Oper} {rest : List (Oper × Bool)} {a : Act} {w : World} (hw : Region.wanted o (yielded ops a.tmps) = false)
    (h : wpSch P ops Q R rest (a.put o.dst undef) w) : wpSch P ops Q R ((o, true) :: rest) a w := by
  unfold wpSch
  rw [if_neg (by rw [hw]; simp)]
  exact h
theorem sch_call {o : Oper} {rest : List (Oper × Bool)} {a : Act} {w : World} (hw : Region.wanted o (yielded ops a.tmps) = true)
    (h : ∀ K : Act → World → Prop, (∀ a' w', R w w' → wpSch P ops Q R rest a' w' → K a' w') → o.wp P a w K Q) : wpSch P ops Q R ((o, true) :: rest) a w := by
  unfold wpSch
  rw [if_pos hw]
  exact h _ fun a' w' h1 h2 => ⟨h1, h2⟩
end
end Go.Proofs.Ythakkaffjnkhgaa
