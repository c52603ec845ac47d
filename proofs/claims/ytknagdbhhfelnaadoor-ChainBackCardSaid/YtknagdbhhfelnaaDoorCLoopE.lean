/-
  A loop over an iterator that does things of its own between the rounds (it reads pages by a pool, say): the iterator's contract speaks of the caller's own states; the loop's two blocks are told apart. Over any program. Conditions: no defer in a round, no panic.
-/
import Derived.RangeFuncNested
import Derived.RangeFuncLeaves
namespace Go.Proofs.YtknagdbhhfelnaaDoor
open Go Go.RowKit
set_option maxRecDepth 100000

section
variable {α : Type} {F : Fence} {n : Nat} {P : Program}
/-- The loop's two blocks: the deferred calls of its rounds, none; its record. -/
structure Book (B : Nat) (r : Loop) (W : World) : Prop where
  dfr : W.heap[B]? = some (.deferred (some []))
  rcd : W.heap[B + 1]? = some (.loop r)
/-- They lie as they lay. -/
def BookSame (B : Nat) (A C : World) : Prop := ∀ k, B ≤ k → k < B + 2 → C.heap[k]? = A.heap[k]?
theorem BookSame.refl (B : Nat) (A : World) : BookSame B A A := fun _ _ _ => rfl
theorem BookSame.trans {B : Nat} {A C D : World} (h : BookSame B A C) (k : BookSame B C D) : BookSame B A D := fun i h1 h2 => (k i h1 h2).trans (h i h1 h2)
theorem Book.same {B : Nat} {r : Loop} {A C : World} (h : Book B r A) (e : BookSame B A C) : Book B r C := ⟨(e B (Nat.le_refl _) (by omega)).trans h.dfr, (e (B + 1) (by omega) (by omega)).trans h.rcd⟩
theorem Book.lt {B : Nat} {r : Loop} {W : World} (h : Book B r W) : B + 1 < W.heap.size := (Array.getElem?_eq_some_iff.1 h.rcd).1
theorem Book.put {B : Nat} {r : Loop} {W : World} (h : Book B r W) (r' : Loop) : Book B r' (W.putObj (B + 1) (.loop r')) := ⟨(World.putObj_heap_other (by omega)).trans h.dfr, World.putObj_heap_same h.lt⟩
/-- A state does not mind that the record is turned. -/
def Calm {β : Type} (B : Nat) (J : β → World → Prop) : Prop := ∀ s W r r', J s W → W.heap[B + 1]? = some (.loop r) → J s (W.putObj (B + 1) (.loop r'))
/-- An iterator's word to the loop whose blocks lie at B: I: behind so many rounds; Iy: at a round's beginning; Id: it has ended by itself. -/
def SeqRuns (F : Fence) (n : Nat) (P : Program) (gf : Nat) (lb : Array Value) (encs : α → Array Value) (B : Nat) (I : List α → World → Prop) (Iy : List α → α → World → Prop) (Id : World → Prop) : Prop :=
  ∀ (G X : World → Prop), (∀ A C, BookSame B A C → G A → G C) →
    (∀ pre x W, Iy pre x W → G W → YieldAt F (n - 1) P (B + 1) (encs x) W fun e W' => (e = .returned (.bool true) ∧ I (pre ++ [x]) W' ∧ G W') ∨ (e = .returned (.bool false) ∧ X W')) →
    ∀ W, I [] W → G W → CallsIn F n P gf (#[.func (.yield (B + 1)) #[] #[]] ++ lb) W fun e W' => (∃ v, e = .returned v) ∧ ((Id W' ∧ G W') ∨ X W')
/-- How a round may be left. -/
def postE (B : Nat) (I : List α → World → Prop) (Ix : Code → World → Prop) (xs : List α) (W : World) : Exit → Act → World → Prop
  | .normal, _, W' => BookSame B W W' ∧ I xs W'
  | .ret, _, W' => BookSame B W W' ∧ Ix .ret W'
  | .exit id, _, W' => BookSame B W W' ∧ Ix (.exit id) W'
  | .goto t, _, W' => BookSame B W W' ∧ Ix (.goto t) W'
  | .panic _, _, _ => False
  | .outgrown, _, _ => False

theorem wpIn_rangeFunc_E {g : Operand} {ps : Array Tmp} {assign body : Code} {Q : Exit → Act → World → Prop} {a : Act} {w : World}
    (hro : F.round = none) (h1 : 1 ≤ n) {gf : Nat} {lb : Array Value} (hg : a.eval g = .func (.func gf) #[] lb) (hFg : F.fn gf) (eg : ∀ args w, (callFunc gf args).run P w = .ok (.enter gf args) w)
    {encs : α → Array Value} (hps : ∀ x, (encs x).size = ps.size) (I : List α → World → Prop) (Iy : List α → α → World → Prop) (Ia : List α → α → Act → World → Prop) (Id : World → Prop) (Ix : Code → World → Prop)
    (hseq : SeqRuns F (n - 1) P gf lb encs w.heap.size I Iy Id)
    (cI : Calm w.heap.size I) (cA : ∀ pre x, Calm w.heap.size (Ia pre x)) (cD : Calm (β := Unit) w.heap.size (fun _ => Id)) (cX : Calm w.heap.size Ix)
    (h0 : ∀ W, Below w.heap.size w W → W.heap.size = w.heap.size + 2 → I [] W)
    (hassign : ∀ (pre : List α) (x : α) (W : World) (K : Act → World → Prop), Iy pre x W → (∀ a' W', BookSame w.heap.size W W' → Ia pre x a' W' → K a' W') →
      assign.wpIn (F.inRound (w.heap.size + 1)) (n - 1 - 1) P (Exit.then K (fun _ _ _ => False)) { tmps := (ps.zip (encs x)).foldl (fun t (p, v) => t.setIfInBounds p v) a.tmps, defers := [] } W)
    (hbody : ∀ (pre : List α) (x : α) (a' : Act) (W : World), Ia pre x a' W → body.wpIn (F.inRound (w.heap.size + 1)) (n - 1 - 1) P (postE w.heap.size I Ix (pre ++ [x]) W) a' W)
    (hdone : ∀ W, Id W → W.heap[w.heap.size]? = some (.deferred (some [])) → Q .normal { a with defers := { target := .collected w.heap.size, args := #[] } :: a.defers } W)
    (hstop : ∀ c W, Ix c W → W.heap[w.heap.size]? = some (.deferred (some [])) → c.wpIn F n P Q { a with defers := { target := .collected w.heap.size, args := #[] } :: a.defers } W) :
    (Code.rangeFunc g ps assign body).wpIn F n P Q a w := by
  refine wpIn_rangeFunc fun fn hfn => ?_
  generalize hB : w.heap.size = B at *
  obtain ⟨lo, hlo⟩ : ∃ lo : LoopState → Option Code → Loop, ∀ st pe, lo st pe = { state := st, pending := pe, fn, tmps := a.tmps, params := ps, assign, body, defers := B } := ⟨_, fun _ _ => rfl⟩
  obtain ⟨V, hV⟩ : ∃ V, V = (w.alloc (.deferred (some []))).alloc (.loop (lo .ready none)) := ⟨_, rfl⟩
  have hz : V.heap.size = B + 2 := by rw [hV, World.size_alloc, World.size_alloc, hB]
  have hbel : Below B w V := by
    rw [hV]
    exact ((Below.refl _ w).alloc (by omega) _).alloc (by rw [World.size_alloc]; omega) _
  have hbk : Book B (lo .ready none) V := by
    refine ⟨?_, ?_⟩
    · have e1 := World.alloc_heap_new w (.deferred (some []))
      rw [hB] at e1
      rw [hV]
      exact (Below.heap_alloc _ _ _ (by rw [World.size_alloc, hB]; exact Nat.lt_succ_self _)).trans e1
    · have e1 := World.alloc_heap_new (w.alloc (.deferred (some []))) (.loop (lo .ready none))
      rw [World.size_alloc, hB] at e1
      rw [hV]
      exact e1
  refine ⟨B + 1, [{ target := .collected B, args := #[] }], V, { target := .fn (.func gf) lb, args := #[.func (.yield (B + 1)) #[] #[]] }, V, gf, #[.func (.yield (B + 1)) #[] #[]] ++ lb, V, ?_, ?_, ?_, ?_, fun _ => h1, ?_⟩
  · have := run_enterLoop_outer (P := P) (w := w) fn a.tmps ps assign body
    rw [hB] at this
    rw [hro, hV, hlo]
    exact this
  · simp only [resolve, hg]
    simp [go_sem]
  · intro f' hf'
    simp [Target.leads] at hf'
    exact hf' ▸ hFg
  · simp [invoke, go_sem, eg]
  · refine (hseq (Book B (lo .ready none)) (fun W => ∃ c, Ix c W ∧ Book B (lo .done (some c)) W) (fun A C e hb => hb.same e) ?_ V (h0 V hbel hz) hbk).mono ?_
    · intro pre x W hy hb
      have hrun := run_yield (P := P) (args := encs x) hb.rcd (by rw [hlo]; exact hps x)
      rw [hlo] at hrun
      refine ⟨fn, _, assign, body, hrun, roundIn_of_wpIn hfn (hassign pre x W _ hy fun a' Wa hsame hia => ?_)⟩
      have hba := hb.same hsame
      have hbusy := hba.put { lo .ready none with state := .busy }
      refine ⟨_, run_beginRound hba.rcd (by rw [hlo]), wpIn_mono (hbody pre x a' _ (cA pre x a' Wa _ _ hia hba.rcd)) ?_⟩
      have hend : ∀ (jump : Option Code) (W3 : World), BookSame B (Wa.putObj (B + 1) (.loop { lo .ready none with state := .busy })) W3 →
          (Instr.endRound (B + 1) jump).run P W3 = .ok (.bool jump.isNone) (W3.putObj (B + 1) (.loop (lo (if jump.isNone then .ready else .done) jump))) ∧ Book B { lo .ready none with state := .busy } W3 := fun jump W3 h3 => by
        have hb3 := hbusy.same h3
        have hr := run_endRound (P := P) jump hb3.rcd
        refine ⟨?_, hb3⟩
        rw [hr, hlo, hlo]
      intro e a3 W3 hp
      cases e with
      | normal =>
        obtain ⟨hr, hb3⟩ := hend none W3 hp.1
        exact ⟨_, _, hr, .inl ⟨rfl, cI _ _ _ _ hp.2 hb3.rcd, hb3.put _⟩⟩
      | ret =>
        obtain ⟨hr, hb3⟩ := hend (some .ret) W3 hp.1
        exact ⟨_, _, hr, .inr ⟨rfl, .ret, cX _ _ _ _ hp.2 hb3.rcd, hb3.put _⟩⟩
      | exit id =>
        obtain ⟨hr, hb3⟩ := hend (some (.exit id)) W3 hp.1
        exact ⟨_, _, hr, .inr ⟨rfl, .exit id, cX _ _ _ _ hp.2 hb3.rcd, hb3.put _⟩⟩
      | goto t =>
        obtain ⟨hr, hb3⟩ := hend (some (.goto t)) W3 hp.1
        exact ⟨_, _, hr, .inr ⟨rfl, .goto t, cX _ _ _ _ hp.2 hb3.rcd, hb3.put _⟩⟩
      | panic ch => exact hp.elim
      | outgrown => exact hp.elim
    · rintro e W2 ⟨⟨v, rfl⟩, (⟨hd, hb2⟩ | ⟨c, hx, hb2⟩)⟩
      · have hr := run_endLoop (P := P) hb2.rcd (by rw [hlo]; simp)
        rw [hlo] at hr
        exact ⟨none, _, hr, hdone _ (cD () _ _ _ hd hb2.rcd) (hb2.put _).dfr⟩
      · have hr := run_endLoop (P := P) hb2.rcd (by rw [hlo]; simp)
        rw [hlo] at hr
        exact ⟨some c, _, hr, hstop c _ (cX _ _ _ _ hx hb2.rcd) (hb2.put _).dfr⟩
end
end Go.Proofs.YtknagdbhhfelnaaDoor
