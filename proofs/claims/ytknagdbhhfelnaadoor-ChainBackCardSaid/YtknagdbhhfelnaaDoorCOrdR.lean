/-
  Regions whose order is open, in a round of a loop over an iterator: the same schedules serve (Ord, OrdT). Over any program. Conditions: the relation is reflexive and transitive; no operation defers; what stands behind lets no end without one.
-/
import Derived.Test.YtknagdbhhfelnaaDoorMg1
import Derived.OrdersIn
import Derived.RangeFuncCalls
namespace Go.Proofs.YtknagdbhhfelnaaDoor
open Go
set_option maxRecDepth 100000

section
variable {P : Program} {ops : Array Oper} {Q : Exit → Act → World → Prop} {md : Region.Mode} {R : World → World → Prop} {lp m : Nat}

def noDefer (ops : Array Oper) : Bool := ops.all fun o => match o.op with | .defer _ => false | _ => true
theorem noDefer_spec (h : noDefer ops = true) (j : Nat) (o : Oper) (ho : ops[j]? = some o) (c : Call) : o.op ≠ .defer c := by
  intro e
  obtain ⟨hj, rfl⟩ := Array.getElem?_eq_some_iff.1 ho
  have := (Array.all_eq_true.1 h) j hj
  rw [e] at this
  cases this

theorem wpOpIn_of_wpOp (hnd : noDefer ops = true) (hL : ¬ LetsOut Q) {i : Nat} {K : Act → World → Prop} {a : Act} {w : World} (h : wpOp P ops Q i K a w) : wpOpIn (Fence.wide.inRound lp) m P ops Q i K a w := by
  unfold wpOp at h
  unfold wpOpIn
  cases ho : ops[i]? with
  | none => simpa [ho] using h
  | some o =>
    simp only [ho] at h ⊢
    by_cases hw : Region.wanted o (yielded ops a.tmps) = true
    · rw [if_pos hw] at h ⊢
      have h := h.elim id (fun h => absurd h.2 hL)
      unfold Oper.wpIn
      refine ⟨fun _ _ => trivial, ?_⟩
      rw [Oper.semAt_eq _ _ _ (noDefer_spec hnd i o ho)]
      unfold Oper.wp at h
      generalize (execOp a.eval o).run P w = r at *
      cases r with
      | ok x w' =>
        cases x with
        | value v => exact h
        | skip => exact h
        | defer d => exact h
        | enter f args => exact ⟨fun h0 => (by cases h0), CallsIn.inRound lp (callsIn_wide.2 h)⟩
        | row row args => exact ⟨fun h0 => (by cases h0), fun c cs _ => let ⟨v, w2, r, s⟩ := h c cs; ⟨v, w2, r, stepsIn_wide.2 s⟩⟩
        | _ => exact absurd h (by simp [Oper.upon])
      | halt x w' =>
        cases x with
        | panic v => exact h
        | _ => exact absurd h (by simp [Oper.upon])
    · rw [if_neg hw] at h ⊢
      exact ⟨fun _ _ => trivial, h⟩
theorem anyIn_of_any (hnd : noDefer ops = true) (hL : ¬ LetsOut Q) : ∀ (fuel : Nat) (listed : Array Bool) (a : Act) (w : World), wpAny P md ops Q fuel listed a w → wpAnyIn (Fence.wide.inRound lp) m P md ops Q fuel listed a w
  | 0, _, _, _, h => h
  | fuel + 1, _, _, _, h => ⟨h.1, fun i hi => wpOpIn_of_wpOp hnd hL (wpOp_mono (fun a' w' h' => anyIn_of_any hnd hL fuel _ a' w' h') (h.2 i hi))⟩

/-- What stands behind, where nothing ends otherwise. -/
def onlyN (Q : Exit → Act → World → Prop) : Exit → Act → World → Prop
  | .normal, a, w => Q .normal a w
  | _, _, _ => False
theorem onlyN_lets : ¬ LetsOut (onlyN Q) := fun h => by obtain ⟨_, _, h⟩ := h; exact h
theorem onlyN_imp (e : Exit) (a : Act) (w : World) (h : onlyN Q e a w) : Q e a w := by
  cases e <;> first | exact h | exact h.elim
theorem wp_onlyN {c : Code} {a : Act} {w : World} (h : c.wp P (onlyN Q) a w) : c.wp P Q a w := wp_mono h onlyN_imp
theorem wpIn_onlyN {c : Code} {F : Fence} {a : Act} {w : World} (h : c.wpIn F m P (onlyN Q) a w) : c.wpIn F m P Q a w := wpIn_mono h onlyN_imp
theorem sch_nilN {a : Act} {w : World} (h : Q .normal a w) : wpSch P ops (onlyN Q) R [] a w := h
/-- The last operation, behind all others. -/
theorem schT_lastN {n : Nat} {o : Oper} {a : Act} {w : World} (ho : ops[n]? = some o) (hw : Region.wanted o (yielded ops a.tmps) = true) (h : o.wp P a w (fun a2 w2 => Q .normal a2 w2) (onlyN Q)) : wpOp P ops (onlyN Q) n (fun a2 w2 => onlyN Q .normal a2 w2) a w := by
  unfold wpOp
  simp only [ho]
  rw [if_pos hw]
  exact .inl h
/-- THE BEGINNING, in a round. -/
theorem wpIn_region_R {id : Nat} {a : Act} {w : World} (hnd : noDefer ops = true) (hL : ¬ LetsOut Q) (hm : P.follows .mixedOrders = true) (hRf : ∀ x, R x x) (hT : ∀ {x y z}, R x y → R y z → R x z) (hs : Region.noSelect ops = true)
    (hQ : ∀ d v c a w, Q (.panic c) (Act.put a d v) w → Q (.panic c) a w) (l : List (Nat × Bool)) (hl : l.length = ops.size) (hok : schedOk .any ops l (Array.replicate ops.size false) = true)
    (hin : l.all (fun x => decide (x.1 < ops.size)) = true) (h : wpSch P ops Q R (sel ops l) a w.drew) : (Code.region id ops true).wpIn (Fence.wide.inRound lp) m P Q a w := by
  refine wpIn_region_any hm ?_
  have := held_of_sch (P := P) (md := .any) (R := R) hRf hT hs hQ l (Array.replicate ops.size false) a w.drew hin hok h
  rw [hl] at this
  exact anyIn_of_any hnd hL _ _ _ _ (wpAny_of_held _ _ _ _ this)
theorem wpIn_region_T {id : Nat} {a : Act} {w : World} (hnd : noDefer ops = true) (hL : ¬ LetsOut Q) (hm : P.follows .mixedOrders = true) (hRf : ∀ x, R x x) (hT : ∀ {x y z}, R x y → R y z → R x z) (hs : Region.noSelect ops = true)
    (n : Nat) (hn : ops.size = n + 1) (hsk : Region.sinkB .any ops n = true) (hc : Region.chainB .any ops n = true)
    (hQ : ∀ d v c a w, Q (.panic c) (Act.put a d v) w → Q (.panic c) a w) (l : List (Nat × Bool)) (hl : l.length = n) (hok : schedOkT .any ops n l (Array.replicate ops.size false) = true)
    (h : wpSchT P ops Q R (fun a' w' => wpOp P ops Q n (fun a2 w2 => Q .normal a2 w2) a' w') (sel ops l) a w.drew) : (Code.region id ops true).wpIn (Fence.wide.inRound lp) m P Q a w := by
  refine wpIn_region_any hm ?_
  have inv0 : HeadInv .any ops n (Array.replicate ops.size false) :=
    ⟨by simp, fun j oj _ hl => (by rw [getD_replicate_false] at hl; cases hl), fun t _ ht => getD_in (by simpa using ht) (getD_replicate_false _ _)⟩
  have H := T_of_sch (P := P) (md := .any) (R := R) hRf hT hs hsk hc (by omega) hQ l (Array.replicate ops.size false) a w.drew inv0 hok h
  have := any_of_T (g := 1) (fun listed a' w' hL => ⟨fun h0 => (by rw [hL.1.1] at h0; cases h0), fun j hj => (by
    rw [hL.1.1] at hj
    have : j = n := by simpa using hj
    subst this
    exact wpOp_mono (fun a2 w2 h2 => ⟨hL.1.2, h2⟩) hL.2)⟩) _ _ _ _ H
  rw [hl, ← hn] at this
  exact anyIn_of_any hnd hL _ _ _ _ this
end
end Go.Proofs.YtknagdbhhfelnaaDoor
