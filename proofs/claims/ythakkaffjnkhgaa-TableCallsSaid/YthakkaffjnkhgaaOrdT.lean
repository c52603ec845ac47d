/-
  Regions whose order is open and whose last operation waits for all others: the relation between worlds is asked of all but that last one. Over any program. Conditions: the relation is reflexive and transitive.
-/
import Derived.Test.YthakkaffjnkhgaaOrd
import Derived.StillTail
namespace Go.Proofs.Ythakkaffjnkhgaa
open Go
set_option maxRecDepth 100000

section
variable {P : Program} {ops : Array Oper} {Q : Exit → Act → World → Prop} {md : Region.Mode} {R : World → World → Prop} {n : Nat}

/-- Whatever order is picked of the first n, S behind each; then L. -/
def wpAnyT (P : Program) (md : Region.Mode) (ops : Array Oper) (Q : Exit → Act → World → Prop) (n : Nat) (L : Array Bool → Act → World → Prop) (S : World → Prop) : Nat → Array Bool → Act → World → Prop
  | 0, listed, a, w => (∀ j ∈ Region.ready md ops listed, n ≤ j) ∧ L listed a w
  | fuel + 1, listed, a, w => Region.ready md ops listed ≠ [] ∧ ∀ i ∈ Region.ready md ops listed, i < n ∧ wpOp P ops Q i (fun a' w' => S w' ∧ wpAnyT P md ops Q n L S fuel (listed.setIfInBounds i true) a' w') a w

theorem anyT_mono {L : Array Bool → Act → World → Prop} {S S' : World → Prop} (hS : ∀ w, S' w → S w) : ∀ (fuel : Nat) (listed : Array Bool) (a : Act) (w : World), wpAnyT P md ops Q n L S' fuel listed a w → wpAnyT P md ops Q n L S fuel listed a w
  | 0, _, _, _, h => h
  | fuel + 1, _, _, _, h => ⟨h.1, fun i hi => ⟨(h.2 i hi).1, wpOp_mono (fun a' w' h' => ⟨hS w' h'.1, anyT_mono hS fuel _ a' w' h'.2⟩) (h.2 i hi).2⟩⟩

theorem any_of_T {L : Array Bool → Act → World → Prop} {S : World → Prop} {g : Nat} (hL : ∀ listed a w, L listed a w → wpAny P md ops Q g listed a w) :
    ∀ (f : Nat) (listed : Array Bool) (a : Act) (w : World), wpAnyT P md ops Q n L S f listed a w → wpAny P md ops Q (f + g) listed a w
  | 0, listed, a, w, h => by rw [Nat.zero_add]; exact hL _ _ _ h.2
  | f + 1, listed, a, w, h => by
    rw [show f + 1 + g = (f + g) + 1 by omega]
    exact ⟨fun h0 => absurd h0 h.1, fun i hi => wpOp_mono (fun a' w' h' => any_of_T hL f _ a' w' h'.2) (h.2 i hi).2⟩

theorem anyT_first {L : Array Bool → Act → World → Prop} {S : World → Prop} {i : Nat} {oi : Oper} {v : Value} (hi : ops[i]? = some oi) (hsel : ∀ (j : Nat) (o : Oper) cs b, ops[j]? = some o → o.op ≠ .select cs b)
    (hs : Region.sinkB md ops n = true) (hc : Region.chainB md ops n = true) (hn : n < ops.size) (hin : i < n)
    (hQ : ∀ c a w, Q (.panic c) (a.put oi.dst v) w → Q (.panic c) a w) :
    ∀ (f : Nat) (listed : Array Bool) (a : Act) (w : World), HeadInv md ops n listed →
      (∀ j oj, ops[j]? = some oj → j ≠ i → listed.getD j true = false → (∀ e ∈ oj.after, Region.binds md e = true → e.on ≠ i) → oi.apart ops oj = true) →
      i ∈ Region.ready md ops listed → YieldsIf P ops S oi v a → S w →
      wpAnyT P md ops Q n L S f (listed.setIfInBounds i true) (a.put oi.dst v) w → wpAnyT P md ops Q n L S (f + 1) listed a w := by
  intro f
  induction f with
  | zero =>
    intro listed a w inv _ hr hy hS H
    have hun := (mem_ready.1 hr).1
    refine ⟨fun h => (by rw [h] at hr; cases hr), fun j hj => ?_⟩
    have hjn : j < n := by
      rcases Nat.lt_or_ge j n with h | h
      · exact h
      · exact absurd hj (tail_waits hs hc hn inv _ i rfl hin hun j h)
    refine ⟨hjn, ?_⟩
    by_cases hji : j = i
    · subst hji; exact hy.wpOp hi hS ⟨hS, H⟩
    · have := H.1 j (ready_mono hj hji)
      omega
  | succ f ih =>
    intro listed a w inv hfree hr hy hS H
    have hun := (mem_ready.1 hr).1
    refine ⟨fun h => (by rw [h] at hr; cases hr), fun j hj => ?_⟩
    have hjn : j < n := by
      rcases Nat.lt_or_ge j n with h | h
      · exact h
      · exact absurd hj (tail_waits hs hc hn inv _ i rfl hin hun j h)
    refine ⟨hjn, ?_⟩
    by_cases hji : j = i
    · subst hji; exact hy.wpOp hi hS ⟨hS, H⟩
    · have h1 := (H.2 j (ready_mono hj hji)).2
      obtain ⟨hjun, oj, hoj, hall⟩ := mem_ready.1 hj
      have hnot : ∀ e ∈ oj.after, Region.binds md e = true → e.on ≠ i := fun e he hb heq => by
        have h1 := hall e he hb
        rw [heq, getD_both hun] at h1
        cases h1
      have h2 := wpOp_putIf hoj (hfree j oj hoj hji hjun hnot) (fun cs b => hsel i oi cs b hi) (fun cs b => hsel j oj cs b hoj) hQ hy h1
      have hfree' : ∀ k ok, ops[k]? = some ok → k ≠ i → (listed.setIfInBounds j true).getD k true = false →
          (∀ e ∈ ok.after, Region.binds md e = true → e.on ≠ i) → oi.apart ops ok = true := fun k ok hk hki hun hno => by
        refine hfree k ok hk hki ?_ hno
        by_cases hjk : j = k
        · subst hjk; exact hjun
        · rw [getD_set_ne true hjk] at hun; exact hun
      refine wpOp_mono (fun a' w' h3 => ⟨h3.2.1, ih (listed.setIfInBounds j true) a' w' (inv.set hj hjn) hfree' (ready_mono hr (Ne.symm hji)) h3.1 h3.2.1 ?_⟩) h2
      rw [Array.setIfInBounds_comm _ _ hji]
      exact h3.2.2

/-- A schedule of the first n. -/
def schedOkT (md : Region.Mode) (ops : Array Oper) (n : Nat) : List (Nat × Bool) → Array Bool → Bool
  | [], listed => Region.ready md ops listed == [n] && Region.ready md ops (listed.setIfInBounds n true) == []
  | (i, b) :: rest, listed => (if b then Region.ready md ops listed == [i] else Region.free md ops listed i && (Region.ready md ops listed).contains i) && decide (i < n) && schedOkT md ops n rest (listed.setIfInBounds i true)

/-- The walk along it; L at its end. -/
def wpSchT (P : Program) (ops : Array Oper) (Q : Exit → Act → World → Prop) (R : World → World → Prop) (L : Act → World → Prop) : List (Oper × Bool) → Act → World → Prop
  | [], a, w => L a w
  | (o, true) :: rest, a, w => if Region.wanted o (yielded ops a.tmps) then o.wp P a w (fun a' w' => R w w' ∧ wpSchT P ops Q R L rest a' w') Q else wpSchT P ops Q R L rest (a.put o.dst undef) w
  | (o, false) :: rest, a, w => ∃ v, YieldsIf P ops (R w) o v a ∧ wpSchT P ops Q R L rest (a.put o.dst v) w

theorem T_of_sch (hRf : ∀ x, R x x) (hT : ∀ {x y z}, R x y → R y z → R x z) (hs : Region.noSelect ops = true)
    (hsk : Region.sinkB md ops n = true) (hc : Region.chainB md ops n = true) (hn : n < ops.size)
    (hQ : ∀ d v c a w, Q (.panic c) (Act.put a d v) w → Q (.panic c) a w) {L : Act → World → Prop} :
    ∀ (l : List (Nat × Bool)) (listed : Array Bool) (a : Act) (w : World), HeadInv md ops n listed → schedOkT md ops n l listed = true → wpSchT P ops Q R L (sel ops l) a w →
      wpAnyT P md ops Q n (fun listed' a' w' => (Region.ready md ops listed' = [n] ∧ Region.ready md ops (listed'.setIfInBounds n true) = []) ∧ L a' w') (R w) l.length listed a w := by
  intro l
  induction l with
  | nil =>
    intro listed a w _ hok h
    simp only [schedOkT, Bool.and_eq_true, beq_iff_eq] at hok
    refine ⟨fun j hj => ?_, hok, h⟩
    rw [hok.1] at hj
    have : j = n := by simpa using hj
    omega
  | cons x l ih =>
    obtain ⟨i, b⟩ := x
    intro listed a w inv hok h
    simp only [schedOkT, Bool.and_eq_true, decide_eq_true_eq] at hok
    obtain ⟨⟨hk, hin⟩, hok⟩ := hok
    obtain ⟨o, ho⟩ : ∃ o, ops[i]? = some o := ⟨_, Array.getElem?_eq_getElem (by omega)⟩
    rw [sel_cons ops i b l o ho] at h
    cases b with
    | false =>
      simp only [Bool.false_eq_true, if_false, Bool.and_eq_true] at hk
      obtain ⟨v, hy, h⟩ := h
      have hr : i ∈ Region.ready md ops listed := by simpa using hk.2
      exact anyT_first ho (Region.noSelect_spec hs) hsk hc hn hin (fun c a w => hQ _ _ c a w) _ listed a w inv (Region.free_spec ho hk.1) hr hy (hRf w) (ih _ _ _ (inv.set hr hin) hok h)
    | true =>
      simp only [if_true, beq_iff_eq] at hk
      have hr : i ∈ Region.ready md ops listed := by rw [hk]; simp
      refine ⟨fun h0 => (by rw [hk] at h0; cases h0), fun j hj => ?_⟩
      rw [hk] at hj
      have : j = i := by simpa using hj
      subst this
      refine ⟨hin, ?_⟩
      unfold wpOp
      simp only [ho]
      unfold wpSchT at h
      by_cases hw : Region.wanted o (yielded ops a.tmps) = true
      · rw [if_pos hw] at h ⊢
        exact .inl (Oper.wp_mono (fun a' w' h' => ⟨h'.1, anyT_mono (fun u hu => hT h'.1 hu) _ _ _ _ (ih _ _ _ (inv.set hr hin) hok h'.2)⟩) h)
      · rw [if_neg hw] at h ⊢
        exact ⟨hRf w, ih _ _ _ (inv.set hr hin) hok h⟩

/-- THE BEGINNING: the first n by a schedule, then the last operation. -/
theorem wp_region_T {id : Nat} {a : Act} {w : World} (hm : P.follows .mixedOrders = true) (hRf : ∀ x, R x x) (hT : ∀ {x y z}, R x y → R y z → R x z) (hs : Region.noSelect ops = true)
    (n : Nat) (hn : ops.size = n + 1) (hsk : Region.sinkB .any ops n = true) (hc : Region.chainB .any ops n = true)
    (hQ : ∀ d v c a w, Q (.panic c) (Act.put a d v) w → Q (.panic c) a w) (l : List (Nat × Bool)) (hl : l.length = n) (hok : schedOkT .any ops n l (Array.replicate ops.size false) = true)
    (h : wpSchT P ops Q R (fun a' w' => wpOp P ops Q n (fun a2 w2 => Q .normal a2 w2) a' w') (sel ops l) a w.drew) : (Code.region id ops true).wp P Q a w := by
  refine wp_region_any hm ?_
  have inv0 : HeadInv .any ops n (Array.replicate ops.size false) :=
    ⟨by simp, fun j oj _ hl => (by rw [getD_replicate_false] at hl; cases hl), fun t _ ht => getD_in (by simpa using ht) (getD_replicate_false _ _)⟩
  have H := T_of_sch (P := P) (md := .any) (R := R) hRf hT hs hsk hc (by omega) hQ l (Array.replicate ops.size false) a w.drew inv0 hok h
  have := any_of_T (g := 1) (fun listed a' w' hL => ⟨fun h0 => (by rw [hL.1.1] at h0; cases h0), fun j hj => (by
    rw [hL.1.1] at hj
    have : j = n := by simpa using hj
    subst this
    exact wpOp_mono (fun a2 w2 h2 => ⟨hL.1.2, h2⟩) hL.2)⟩) _ _ _ _ H
  rw [hl, ← hn] at this
  exact this

/-! The moves. -/
theorem schT_nil {L : Act → World → Prop} {a : Act} {w : World} (h : L a w) : wpSchT P ops Q R L [] a w := h
theorem schT_take {L : Act → World → Prop} {o : Oper} {rest : List (Oper × Bool)} {a : Act} {w : World} (v : Value) (hw : Region.wanted o (yielded ops a.tmps) = true)
    (hv : ∀ u, R w u → (execOp a.eval o).run P u = .ok (.value v) u) (h : wpSchT P ops Q R L rest (a.put o.dst v) w) : wpSchT P ops Q R L ((o, false) :: rest) a w :=
  ⟨v, .inl ⟨hw, hv⟩, h⟩
theorem schT_call {L : Act → World → Prop} {o : Oper} {rest : List (Oper × Bool)} {a : Act} {w : World} (hw : Region.wanted o (yielded ops a.tmps) = true)
    (h : ∀ K : Act → World → Prop, (∀ a' w', R w w' → wpSchT P ops Q R L rest a' w' → K a' w') → o.wp P a w K Q) : wpSchT P ops Q R L ((o, true) :: rest) a w := by
  unfold wpSchT
  rw [if_pos hw]
  exact h _ fun a' w' h1 h2 => ⟨h1, h2⟩
/-- The last operation. -/
theorem schT_last {o : Oper} {a : Act} {w : World} (ho : ops[n]? = some o) (hw : Region.wanted o (yielded ops a.tmps) = true) (h : o.wp P a w (fun a2 w2 => Q .normal a2 w2) Q) : wpOp P ops Q n (fun a2 w2 => Q .normal a2 w2) a w := by
  unfold wpOp
  simp only [ho]
  rw [if_pos hw]
  exact .inl h
end
end Go.Proofs.Ythakkaffjnkhgaa
