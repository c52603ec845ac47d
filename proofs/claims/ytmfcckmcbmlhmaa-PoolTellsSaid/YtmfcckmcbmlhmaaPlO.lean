/-
  What the statement PoolTells goes by: a pool, a row of bytes and a row of numbers beside it; pins counted over frames; its calls opened. Conditions: none.
-/
import Derived.Test.YtmfcckmcbmlhmaaPlM
import Derived.Test.YtmfcckmcbmlhmaaRec
namespace Go.Proofs.Ytmfcckmcbmlhmaa
open Go.ChangeShapes Go.WideShapes Go.ChangeAt Go.RowKit Go.Deep Go.Maps
set_option maxRecDepth 100000

/-! Calls that came in. -/
structure Act7 where
  kind : Int
  n : Int
  v : UInt8
instance : Inhabited Act7 := ⟨⟨0, 0, 0⟩⟩
def act7L (a : Act7) : List Value := [.int .i64 a.kind, .int .i64 a.n, .int .u8 (a.v.toNat : Int)]
def Act7Ok (a : Act7) : Prop := (-9223372036854775808 ≤ a.kind ∧ a.kind ≤ 9223372036854775807) ∧ (-9223372036854775808 ≤ a.n ∧ a.n ≤ 9223372036854775807)
theorem cellInt7 : Try.prog.cellsOf 3 = 1 := by kernel_rfl
theorem cellByte7 : Try.prog.cellsOf 5 = 1 := by kernel_rfl
theorem cellAct7 : Try.prog.cellsOf 43 = 3 := by kernel_rfl
section
variable {H : Type} {enc : TypeId × Value → H} {W : World}
theorem open_act7F {fuel : Nat} {cs : List Value} {x : DataW H × List MemPlace} (h : DataW.trod enc Try.prog W 0 (fun _ => true) true fuel 43 cs = some x) : ∃ a, cs = act7L a ∧ Act7Ok a := by
  obtain ⟨xs, n, _, rfl, hl, hlen, hf⟩ := DataW.trod_struct Try.underlying43 h
  rw [cellAct7] at hl
  match cs, hl, xs, hlen with
  | [c0, c1, c2], _, [y0, y1, y2], _ =>
    have g0 : DataW.trod enc Try.prog W 0 (fun _ => true) true n 3 [c0] = some y0 := by simpa [cellInt7] using hf 0 _ rfl
    have g1 : DataW.trod enc Try.prog W 0 (fun _ => true) true n 3 [c1] = some y1 := by simpa [cellInt7] using hf 1 _ rfl
    have g2 : DataW.trod enc Try.prog W 0 (fun _ => true) true n 5 [c2] = some y2 := by simpa [cellByte7] using hf 2 _ rfl
    obtain ⟨kind, q0, _, w0⟩ := DataW.trod_int Try.underlying3 g0
    obtain ⟨nn, q1, _, w1⟩ := DataW.trod_int Try.underlying3 g1
    obtain ⟨v, q2, _, w2⟩ := DataW.trod_int Try.underlying5 g2
    obtain ⟨v', rfl⟩ := open_u8 w2
    simp at q0 q1 q2
    subst q0 q1 q2
    exact ⟨⟨kind, nn, v'⟩, rfl, open_i64 w0, open_i64 w1⟩
def Acts7 (w : World) (v : Value) (n : Nat) (f : Nat → Act7) : Prop := Recs 3 act7L Act7Ok w v n f
theorem open_acts7 {base : Nat} {v : Value} {d : DataW H} {p : List MemPlace} (hv : Value.okWide Try.prog W .any base 39 v) (h : DataW.Trod enc Try.prog W 0 (fun _ => true) true 39 v d p) : ∃ n f, Acts7 W v n f :=
  open_recs Try.underlying39 cellAct7 (by omega) (fun _ => rfl) (fun h => open_act7F h) hv h
end

/-! Pins counted. -/
def addF (h : List Nat) (f : Fr) : List Nat := if f.is = true then h.set f.page.toNat (h.getD f.page.toNat 0 + f.pins) else h
def heldI (n : Nat) (fr : List Fr) (k : Nat) : List Nat := (fr.take k).foldl addF (List.replicate n 0)
theorem heldI_next (n : Nat) (fr : List Fr) (k : Nat) (hk : k < fr.length) : heldI n fr (k + 1) = addF (heldI n fr k) (fr.getD k zeroF) := by
  unfold heldI
  rw [List.take_succ_eq_append_getElem hk, List.foldl_append]
  simp [hk]
theorem addF_len (h : List Nat) (f : Fr) : (addF h f).length = h.length := by unfold addF; split <;> simp
theorem heldI_len (n : Nat) (fr : List Fr) : ∀ k, k ≤ fr.length → (heldI n fr k).length = n
  | 0, _ => by simp [heldI]
  | k + 1, hk => by rw [heldI_next n fr k hk, addF_len, heldI_len n fr k (by omega)]
theorem getD_setN (l : List Nat) (i j x : Nat) (hi : i < l.length) : (l.set i x).getD j 0 = if j = i then x else l.getD j 0 := by
  simp only [List.getD_eq_getElem?_getD, List.getElem?_set]
  by_cases e : i = j
  · subst e; simp [hi]
  · rw [if_neg e, if_neg (fun h => e h.symm)]
theorem held_some {n m : Nat} {has : Nat → List UInt8} {pins : Nat → Nat} {P : PSt} (h : TInv n m has pins P) : ∀ k, k ≤ m → ∀ x, x < n →
    ((∃ i, i < k ∧ hasF (x : Int) (P.fr.getD i zeroF) = true) → (heldI n P.fr k).getD x 0 = pins x) ∧ ((∀ i, i < k → hasF (x : Int) (P.fr.getD i zeroF) = false) → (heldI n P.fr k).getD x 0 = 0)
  | 0, _, x, hx => ⟨fun ⟨i, hi, _⟩ => by omega, fun _ => by simp [heldI, hx]⟩
  | k + 1, hk, x, hx => by
    have ih := held_some h k (by omega) x hx
    have hkl : k < P.fr.length := by rw [h.len]; omega
    have hl := heldI_len n P.fr k (by rw [h.len]; omega)
    rw [heldI_next n P.fr k hkl]
    generalize hf : P.fr.getD k zeroF = f at *
    unfold addF
    by_cases his : f.is = true
    · rw [if_pos his]
      obtain ⟨y, hy, hpg, hb, hp, hd⟩ := h.frs k (by omega) (by rw [hf]; exact his)
      rw [hf] at hpg hp
      have hyn : f.page.toNat = y := by rw [hpg]; rfl
      rw [hyn, getD_setN _ _ _ _ (by rw [hl]; exact hy)]
      have hy0 : (heldI n P.fr k).getD y 0 = 0 := (held_some h k (by omega) y hy).2 (fun i hi => hasF_not (fun e e' => by
        have := h.dis i k (by omega) (by omega) e (by rw [hf]; exact his) (by rw [e', hf, hpg])
        omega))
      by_cases e : x = y
      · subst e
        rw [if_pos rfl, hy0, hp, Nat.zero_add]
        refine ⟨fun _ => rfl, fun hall => ?_⟩
        have := hall k (by omega)
        rw [hf, hasF_iff.2 ⟨his, hpg⟩] at this
        cases this
      · rw [if_neg e]
        refine ⟨fun ⟨i, hi, hh⟩ => ih.1 ⟨i, ?_, hh⟩, fun hall => ih.2 (fun i hi => hall i (by omega))⟩
        by_cases hik : i = k
        · exfalso
          rw [hik, hf] at hh
          have := (hasF_iff.1 hh).2
          omega
        · omega
    · rw [if_neg his]
      refine ⟨fun ⟨i, hi, hh⟩ => ih.1 ⟨i, ?_, hh⟩, fun hall => ih.2 (fun i hi => hall i (by omega))⟩
      by_cases hik : i = k
      · exfalso
        rw [hik, hf] at hh
        exact his (hasF_iff.1 hh).1
      · omega
theorem held_all {n m : Nat} {has : Nat → List UInt8} {ps : List Nat} {P : PSt} (h : TInv n m has (fun y => ps.getD y 0) P) (hl : ps.length = n) : heldI n P.fr m = ps := by
  have hhl := heldI_len n P.fr m (by rw [h.len]; exact Nat.le_refl _)
  apply List.ext_getElem
  · rw [hhl, hl]
  · intro x h1 h2
    have hx : x < n := by omega
    have := held_some h m (Nat.le_refl _) x hx
    have e1 : (heldI n P.fr m).getD x 0 = (heldI n P.fr m)[x] := by simp [h1]
    have e2 : ps.getD x 0 = ps[x] := by simp [h2]
    rw [← e1, ← e2]
    by_cases hall : ∀ i, i < m → hasF (x : Int) (P.fr.getD i zeroF) = false
    · rw [this.2 hall]
      exact (h.out x hx hall).2.symm
    · obtain ⟨i, hi⟩ := Classical.not_forall.1 hall
      obtain ⟨him, hf⟩ := Classical.not_imp.1 hi
      exact this.1 ⟨i, him, Bool.not_eq_false _ ▸ hf⟩
/-- What is added to a frame's count is nothing but its pins. -/
theorem held_zero {n m : Nat} {has : Nat → List UInt8} {pins : Nat → Nat} {P : PSt} (h : TInv n m has pins P) {k : Nat} (hk : k < m) (his : (P.fr.getD k zeroF).is = true) : ∃ y, y < n ∧ (P.fr.getD k zeroF).page = (y : Int) ∧ (P.fr.getD k zeroF).pins = pins y ∧ (heldI n P.fr k).getD y 0 = 0 := by
  obtain ⟨y, hy, hpg, hb, hp, hd⟩ := h.frs k hk his
  refine ⟨y, hy, hpg, hp, (held_some h k (by omega) y hy).2 (fun i hi => hasF_not (fun e e' => ?_))⟩
  have := h.dis i k (by omega) (by omega) e his (by rw [e', hpg])
  omega

/-! The memory. -/
structure TMem (w0 w : World) (p d fb hb pb n : Nat) (P : PSt) (T : Nat → Prop) (hs : List UInt8) (ps : List Nat) : Prop where
  pool : PAt w T p d fb P
  hown : Own w 0 5 (.slice (some ⟨hb, 0, none⟩) n n) hs
  pown : w.ownsRow 0 3 1 (.slice (some ⟨pb, 0, none⟩) n n) n (inz ps)
  hl : hs.length = n
  pl : ps.length = n
  off : ∀ k, T k → w0.heap.size ≤ k ∧ k ≠ hb ∧ k ≠ pb
  h0 : w0.heap.size ≤ hb
  p0 : w0.heap.size ≤ pb
  ne : hb ≠ pb
  bel : Below w0.heap.size w0 w
section
variable {w0 w w' : World} {p d fb hb pb n : Nat} {P : PSt} {T : Nat → Prop} {hs : List UInt8} {ps : List Nat}
theorem TMem.hlt (h : TMem w0 w p d fb hb pb n P T hs ps) : hb < w.heap.size := (World.ownsRow.lt h.hown hb rfl).2
theorem TMem.plt (h : TMem w0 w p d fb hb pb n P T hs ps) : pb < w.heap.size := (World.ownsRow.lt h.pown pb rfl).2
theorem TMem.below (h : TMem w0 w p d fb hb pb n P T hs ps) (hB : Below w.heap.size w w') : TMem w0 w' p d fb hb pb n P T hs ps :=
  ⟨h.pool.below hB, ownsRow_same h.hown (fun k hk => by simp [Value.ownBlock] at hk; exact hB.block k (hk ▸ h.hlt)), ownsRow_same h.pown (fun k hk => by simp [Value.ownBlock] at hk; exact hB.block k (hk ▸ h.plt)), h.hl, h.pl, h.off, h.h0, h.p0, h.ne, h.bel.trans (hB.mono h.bel.size)⟩
theorem TMem.call (h : TMem w0 w p d fb hb pb n P T hs ps) {T' : Nat → Prop} {P' : PSt} (hp : PAt w' T' p d fb P') (hT : ∀ k, T' k → more T w w' k) (ht : Trn T w w') : TMem w0 w' p d fb hb pb n P' T' hs ps := by
  have hnh : ¬ T hb := fun e => (h.off hb e).2.1 rfl
  have hnp : ¬ T pb := fun e => (h.off pb e).2.2 rfl
  refine ⟨hp, ownsRow_same h.hown (fun k hk => by simp [Value.ownBlock] at hk; exact ht.block k (hk ▸ h.hlt) (hk ▸ hnh)), ownsRow_same h.pown (fun k hk => by simp [Value.ownBlock] at hk; exact ht.block k (hk ▸ h.plt) (hk ▸ hnp)), h.hl, h.pl, fun k hk => (hT k hk).elim (h.off k) (fun e => ?_), h.h0, h.p0, h.ne, h.bel.trans (ht.below h.bel.size (fun k hk => (h.off k hk).1))⟩
  have := h.hlt; have := h.plt; have := h.bel.size
  omega
theorem TMem.setPin (h : TMem w0 w p d fb hb pb n P T hs ps) {x : Nat} (hx : x < n) (k : Nat) : TMem w0 (w.setCell ⟨pb, x, none⟩ (.int .i64 (k : Int))) p d fb hb pb n P T hs (ps.set x k) := by
  have ht : Trn (fun j => j = pb) w (w.setCell ⟨pb, x, none⟩ (.int .i64 (k : Int))) := (Trn.refl _ _).setCell _ (fun _ => rfl)
  refine ⟨h.pool.trn ht (fun j hj e => (h.off j hj).2.2 e), ownsRow_same h.hown (fun j hj => by simp [Value.ownBlock] at hj; exact ht.block j (hj ▸ h.hlt) (fun e => h.ne (hj.trans e))), ?_, h.hl, by rw [List.length_set]; exact h.pl, h.off, h.h0, h.p0, h.ne, h.bel.setCell (p := ⟨pb, x, none⟩) h.p0 _⟩
  have hlx : x < (inz ps).length := by rw [inz_len, h.pl]; exact hx
  have := (h.pown.stored x (.int .i64 (k : Int))).1
  rw [show inz (ps.set x k) = (inz ps).set x (.int .i64 (k : Int)) by simp [inz, List.map_set]]
  exact this
theorem TMem.setHas (h : TMem w0 w p d fb hb pb n P T hs ps) {x : Nat} (hx : x < n) (v : UInt8) : TMem w0 (w.setCell ⟨hb, x, none⟩ (.int .u8 (v.toNat : Int))) p d fb hb pb n P T (hs.set x v) ps := by
  have ht : Trn (fun j => j = hb) w (w.setCell ⟨hb, x, none⟩ (.int .u8 (v.toNat : Int))) := (Trn.refl _ _).setCell _ (fun _ => rfl)
  refine ⟨h.pool.trn ht (fun j hj e => (h.off j hj).2.1 e), ?_, ownsRow_same h.pown (fun j hj => by simp [Value.ownBlock] at hj; exact ht.block j (hj ▸ h.plt) (fun e => h.ne (e.symm.trans hj.symm))), by rw [List.length_set]; exact h.hl, h.pl, h.off, h.h0, h.p0, h.ne, h.bel.setCell (p := ⟨hb, x, none⟩) h.h0 _⟩
  have hlx : x < (byc hs).length := by rw [byc_len, h.hl]; exact hx
  have h1 := h.hown
  unfold Own at h1 ⊢
  rw [h.hl] at h1
  have := (World.ownsRow.stored h1 x (.int .u8 (v.toNat : Int))).1
  rw [List.length_set, h.hl, show byc (hs.set x v) = (byc hs).set x (.int .u8 (v.toNat : Int)) by simp [byc, List.map_set]]
  exact this
/-- What the walk asks of both rows. -/
theorem TMem.cells (h : TMem w0 w p d fb hb pb n P T hs ps) {x : Nat} (hx : x < n) : w.cell? ⟨hb, x, none⟩ = some (.int .u8 ((hs.getD x 0).toNat : Int)) ∧ w.cell? ⟨pb, x, none⟩ = some (.int .i64 ((ps.getD x 0 : Nat) : Int)) ∧ w.frozen? ⟨hb, x, none⟩ = false ∧ w.frozen? ⟨pb, x, none⟩ = false := by
  have hx1 : x < hs.length := by rw [h.hl]; exact hx
  have hx2 : x < ps.length := by rw [h.pl]; exact hx
  have h1 := h.hown
  unfold Own at h1
  rw [h.hl] at h1
  refine ⟨?_, ?_, World.ownsRow.frozenAt h1 x, h.pown.frozenAt x⟩
  · rw [World.ownsRow.cellAt h1 x (by rw [Nat.mul_one]; exact hx)]
    simp [byc, hx1]
  · rw [h.pown.cellAt x (by rw [Nat.mul_one]; exact hx)]
    simp [inz, hx2]
end
def hasL (hs : List UInt8) (y : Nat) : List UInt8 := rowP (hs.getD y 0)
def pinsL (ps : List Nat) (y : Nat) : Nat := ps.getD y 0
theorem hasL_set {hs : List UInt8} {x : Nat} (hx : x < hs.length) (v : UInt8) : hasL (hs.set x v) = upd (hasL hs) x (rowP v) := by
  funext y
  unfold hasL upd
  by_cases e : y = x
  · subst e
    rw [if_pos rfl]
    simp [hx]
  · rw [if_neg e]
    simp only [List.getD_eq_getElem?_getD, List.getElem?_set]
    rw [if_neg (fun h : x = y => e h.symm)]
theorem pinsL_set {ps : List Nat} {x : Nat} (hx : x < ps.length) (v : Nat) : pinsL (ps.set x v) = upd (pinsL ps) x v := by
  funext y
  unfold pinsL upd
  rw [getD_setN _ _ _ _ hx]
theorem TInv.few {n m c : Nat} {has : Nat → List UInt8} {pins : Nat → Nat} {P : PSt} (h : TInv n m has pins P) (hc : ∀ y, pins y ≤ c) (i : Nat) : (P.fr.getD i zeroF).pins ≤ c := by
  by_cases hi : i < m
  · cases e : (P.fr.getD i zeroF).is
    · rw [h.emp i hi e]
      exact Nat.zero_le _
    · obtain ⟨x, _, _, _, hp, _⟩ := h.frs i hi e
      rw [hp]
      exact hc x
  · have : P.fr.getD i zeroF = zeroF := by
      simp only [List.getD_eq_getElem?_getD]
      rw [List.getElem?_eq_none (by rw [h.len]; omega)]
      rfl
    rw [this]
    exact Nat.zero_le _
theorem flush_t {n m : Nat} {has : Nat → List UInt8} {pins : Nat → Nat} {P : PSt} (h : TInv n m has pins P) : (flushQ P).1 = 0 ∧ (∀ x, x < n → ((flushQ P).2.s.B.drop (4096 * x)).take 4096 = has x) ∧ (flushQ P).2.s.C = [] ∧ (flushQ P).2.s.B.length = 4096 * n := by
  obtain ⟨a, b, c⟩ := cleanQ_t h
  have hfl : flushR (cleanQ P).2.s = (0, settleS (fun _ => 512) (cleanQ P).2.s) := by
    have hF := b.F
    generalize (cleanQ P).2.s = s at *
    unfold flushR
    rw [hF]
    have : tick s = s := by cases s; simp at hF; subst hF; rfl
    rw [this]
    rfl
  unfold flushQ
  rw [if_pos a, hfl]
  have hw := (b.ok.settle (fun _ => 512)).whole
  rw [secs_settle _ b.ok, b.sec] at hw
  exact ⟨rfl, fun x hx => image_holds b.ok (b.hl x) (b.all c hx), rfl, by show (settleS (fun _ => 512) (cleanQ P).2.s).B.length = _; omega⟩
/-- What the walk asks of a told frame's cells. -/
theorem told_at {w : World} {g : Nat} {l : List Fr} (h : ABlkF w g l) {i : Nat} (hi : i < l.length) : w.cell? ⟨g, i * 5, none⟩ = some (.bool (l.getD i zeroF).is) ∧ w.cell? ⟨g, i * 5 + 1, none⟩ = some (.int .i64 (l.getD i zeroF).page) ∧ w.cell? ⟨g, i * 5 + 2, none⟩ = some (.int .i64 ((l.getD i zeroF).pins : Int)) := by
  have hc : ∀ j, j < 5 → w.cell? ⟨g, i * 5 + j, none⟩ = (afL (l.getD i zeroF))[j]? := fun j hj => by
    rw [cell_of_row _ _ _ _ _ _ h, List.getElem?_toArray, fm_get (m := 5) (g := afL) (fun _ => rfl) l i hi j hj]
    simp [hi]
  exact ⟨hc 0 (by omega), hc 1 (by omega), hc 2 (by omega)⟩
/-- All of it, behind c calls. -/
def TAll (w0 : World) (p d fb hb pb n m c : Nat) (w : World) : Prop := ∃ P T hs ps, TMem w0 w p d fb hb pb n P T hs ps ∧ TInv n m (hasL hs) (pinsL ps) P ∧ ∀ y, pinsL ps y ≤ c
end Go.Proofs.Ytmfcckmcbmlhmaa
