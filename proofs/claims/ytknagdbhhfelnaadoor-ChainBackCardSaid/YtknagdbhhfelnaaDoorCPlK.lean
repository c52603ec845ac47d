/-
  Pools, plain: while no fault is to come, what the frames and the disk hold together (TInv), and what each call makes of it. Conditions: no fault.
-/
import Derived.Test.YtknagdbhhfelnaaDoorCPlJ
import Derived.Test.YtknagdbhhfelnaaDoorCPgS
namespace Go.Proofs.YtknagdbhhfelnaaDoor
open Go.RowKit Go.Maps
set_option maxRecDepth 100000

theorem getD_set (l : List Fr) (i j : Nat) (x d : Fr) (hi : i < l.length) : (l.set i x).getD j d = if j = i then x else l.getD j d := by
  simp only [List.getD_eq_getElem?_getD, List.getElem?_set]
  by_cases e : i = j
  · subst e
    simp [hi]
  · rw [if_neg e, if_neg (fun h => e h.symm)]
/-- n pages, m frames: what each page has, how often it is pinned. -/
structure TInv (n m : Nat) (has : Nat → List UInt8) (pins : Nat → Nat) (P : PSt) : Prop where
  ok : OkSt P.s
  F : P.s.F = none
  sec : secs P.s = 8 * n
  len : P.fr.length = m
  hd : P.hand < m
  hl : ∀ x, (has x).length = 4096
  emp : ∀ i, i < m → (P.fr.getD i zeroF).is = false → P.fr.getD i zeroF = zeroF
  frs : ∀ i, i < m → (P.fr.getD i zeroF).is = true → ∃ x, x < n ∧ (P.fr.getD i zeroF).page = (x : Int) ∧ (P.fr.getD i zeroF).b = has x ∧ (P.fr.getD i zeroF).pins = pins x ∧ ((P.fr.getD i zeroF).dirty = false → Holds P.s x (has x))
  dis : ∀ i j, i < m → j < m → (P.fr.getD i zeroF).is = true → (P.fr.getD j zeroF).is = true → (P.fr.getD i zeroF).page = (P.fr.getD j zeroF).page → i = j
  out : ∀ x, x < n → (∀ i, i < m → hasF x (P.fr.getD i zeroF) = false) → Holds P.s x (has x) ∧ pins x = 0
theorem hasF_iff {x : Int} {f : Fr} : hasF x f = true ↔ f.is = true ∧ f.page = x := by simp [hasF]
theorem hasF_not {x : Int} {f : Fr} (h : f.is = true → f.page ≠ x) : hasF x f = false := by
  cases hf : hasF x f
  · rfl
  · have := hasF_iff.1 hf
    exact absurd this.2 (h this.1)
section
variable {n m : Nat} {has : Nat → List UInt8} {pins : Nat → Nat} {P : PSt}
/-- The disk is another one. -/
theorem TInv.disk (h : TInv n m has pins P) {s' : St} (x : Nat) (ok : OkSt s') (hF : s'.F = none) (hs : secs s' = secs P.s) (h1 : Holds s' x (has x)) (h2 : ∀ y a, y ≠ x → Holds P.s y a → Holds s' y a) : TInv n m has pins ⟨P.fr, P.hand, s'⟩ := by
  have up : ∀ y, Holds P.s y (has y) → Holds s' y (has y) := fun y hy => by
    by_cases e : y = x
    · subst e; exact h1
    · exact h2 y _ e hy
  refine ⟨ok, hF, hs.trans h.sec, h.len, h.hd, h.hl, h.emp, fun i hi his => ?_, h.dis, fun x hx ha => ⟨up x (h.out x hx ha).1, (h.out x hx ha).2⟩⟩
  obtain ⟨x, a, b, c, d, e⟩ := h.frs i hi his
  exact ⟨x, a, b, c, d, fun hd => up x (e hd)⟩
/-- The hand is elsewhere. -/
theorem TInv.turn (h : TInv n m has pins P) (k : Nat) (hk : k < m) : TInv n m has pins ⟨P.fr, k, P.s⟩ :=
  ⟨h.ok, h.F, h.sec, h.len, hk, h.hl, h.emp, h.frs, h.dis, h.out⟩
/-- One frame is another one, of the same page. -/
theorem TInv.same (h : TInv n m has pins P) (i x : Nat) (hi : i < m) (f : Fr) (has' : Nat → List UInt8) (pins' : Nat → Nat) (his : (P.fr.getD i zeroF).is = true) (hpg : (P.fr.getD i zeroF).page = (x : Int)) (hf : f.is = true) (hfp : f.page = (x : Int))
    (hb : f.b = has' x) (hp : f.pins = pins' x) (hd : f.dirty = false → Holds P.s x (has' x)) (hh : ∀ y, y ≠ x → has' y = has y ∧ pins' y = pins y) (hl : ∀ y, (has' y).length = 4096) : TInv n m has' pins' ⟨P.fr.set i f, P.hand, P.s⟩ := by
  have hil : i < P.fr.length := by rw [h.len]; exact hi
  have hg : ∀ j, ((P.fr.set i f).getD j zeroF) = if j = i then f else P.fr.getD j zeroF := fun j => getD_set _ _ _ _ _ hil
  refine ⟨h.ok, h.F, h.sec, by rw [List.length_set]; exact h.len, h.hd, hl, fun j hj e => ?_, fun j hj e => ?_, fun j k hj hk e1 e2 e3 => ?_, fun y hy ha => ?_⟩
  · simp only [hg] at e ⊢
    split at e
    · rw [hf] at e; cases e
    · rename_i hne; rw [if_neg hne]; exact h.emp j hj e
  · simp only [hg] at e ⊢
    by_cases hji : j = i
    · simp only [if_pos hji]
      obtain ⟨x', a, b, _⟩ := h.frs i hi his
      have : x' = x := by rw [hpg] at b; omega
      subst this
      exact ⟨x', a, hfp, hb, hp, hd⟩
    · simp only [if_neg hji] at e ⊢
      obtain ⟨y, a, b, c, d, g⟩ := h.frs j hj e
      have hyx : y ≠ x := fun hy => hji (h.dis j i hj hi e his (by rw [b, hpg, hy]))
      exact ⟨y, a, b, by rw [c, (hh y hyx).1], by rw [d, (hh y hyx).2], fun hd => by rw [(hh y hyx).1]; exact g hd⟩
  · simp only [hg] at e1 e2 e3
    by_cases hj' : j = i
    · by_cases hk' : k = i
      · rw [hj', hk']
      · simp only [if_pos hj', if_neg hk'] at e1 e2 e3
        exact hj'.trans (h.dis i k hi hk his e2 (by rw [hpg, ← hfp, e3]))
    · by_cases hk' : k = i
      · simp only [if_pos hk', if_neg hj'] at e1 e2 e3
        exact (h.dis j i hj hi e1 his (by rw [hpg, ← hfp, e3])).trans hk'.symm
      · simp only [if_neg hk', if_neg hj'] at e1 e2 e3
        exact h.dis j k hj hk e1 e2 e3
  · have hyx : y ≠ x := fun hy => by
      have := ha i hi
      simp only [hg, if_pos] at this
      rw [hasF_iff.2 ⟨hf, by rw [hfp, hy]⟩] at this
      cases this
    have := h.out y hy (fun j hj => by
      have e := ha j hj
      simp only [hg] at e
      by_cases hji : j = i
      · rw [hji]
        exact hasF_not (fun _ => by rw [hpg]; omega)
      · rw [if_neg hji] at e; exact e)
    rw [(hh y hyx).1, (hh y hyx).2]
    exact this
/-- A frame is emptied, whose page the disk has. -/
theorem TInv.empty (h : TInv n m has pins P) (i : Nat) (hi : i < m) (hp : ∀ x, x < n → (P.fr.getD i zeroF).is = true → (P.fr.getD i zeroF).page = (x : Int) → Holds P.s x (has x) ∧ pins x = 0) : TInv n m has pins ⟨P.fr.set i zeroF, P.hand, P.s⟩ := by
  have hil : i < P.fr.length := by rw [h.len]; exact hi
  have hg : ∀ j, ((P.fr.set i zeroF).getD j zeroF) = if j = i then zeroF else P.fr.getD j zeroF := fun j => getD_set _ _ _ _ _ hil
  have hz : ∀ j, ((P.fr.set i zeroF).getD j zeroF).is = true → j ≠ i ∧ (P.fr.set i zeroF).getD j zeroF = P.fr.getD j zeroF := fun j e => by
    rw [hg] at e
    by_cases hji : j = i
    · rw [if_pos hji] at e; cases e
    · exact ⟨hji, by rw [hg, if_neg hji]⟩
  refine ⟨h.ok, h.F, h.sec, by rw [List.length_set]; exact h.len, h.hd, h.hl, fun j hj e => ?_, fun j hj e => ?_, fun j k hj hk e1 e2 e3 => ?_, fun y hy ha => ?_⟩
  · simp only [hg] at e ⊢
    split at e
    · rename_i hji; rw [if_pos hji]
    · rename_i hne; rw [if_neg hne]; exact h.emp j hj e
  · have := hz j e
    simp only [this.2] at e ⊢
    exact h.frs j hj e
  · have a := hz j e1
    have b := hz k e2
    simp only [a.2, b.2] at e1 e2 e3
    exact h.dis j k hj hk e1 e2 e3
  · by_cases hx : (P.fr.getD i zeroF).is = true ∧ (P.fr.getD i zeroF).page = (y : Int)
    · exact hp y hy hx.1 hx.2
    · refine h.out y hy (fun j hj => ?_)
      by_cases hji : j = i
      · rw [hji]
        exact hasF_not (fun e e' => hx ⟨e, e'⟩)
      · have := ha j hj
        simp only [hg, if_neg hji] at this
        exact this
/-- An empty frame gets a page that no frame has. -/
theorem TInv.fill (h : TInv n m has pins P) (i x : Nat) (hi : i < m) (hx : x < n) (f : Fr) (has' : Nat → List UInt8) (he : P.fr.getD i zeroF = zeroF) (hno : ∀ j, j < m → hasF x (P.fr.getD j zeroF) = false) (hf : f.is = true) (hfp : f.page = (x : Int))
    (hb : f.b = has' x) (hp : f.pins = 0) (hd : f.dirty = false → Holds P.s x (has' x)) (hh : ∀ y, y ≠ x → has' y = has y) (hl : ∀ y, (has' y).length = 4096) : TInv n m has' pins ⟨P.fr.set i f, P.hand, P.s⟩ := by
  have hil : i < P.fr.length := by rw [h.len]; exact hi
  have hg : ∀ j, ((P.fr.set i f).getD j zeroF) = if j = i then f else P.fr.getD j zeroF := fun j => getD_set _ _ _ _ _ hil
  have hpx := (h.out x hx hno).2
  have hnx : ∀ j, j < m → (P.fr.getD j zeroF).is = true → (P.fr.getD j zeroF).page ≠ (x : Int) := fun j hj e e' => by
    have := hno j hj
    rw [hasF_iff.2 ⟨e, e'⟩] at this
    cases this
  refine ⟨h.ok, h.F, h.sec, by rw [List.length_set]; exact h.len, h.hd, hl, fun j hj e => ?_, fun j hj e => ?_, fun j k hj hk e1 e2 e3 => ?_, fun y hy ha => ?_⟩
  · simp only [hg] at e ⊢
    split at e
    · rw [hf] at e; cases e
    · rename_i hne; rw [if_neg hne]; exact h.emp j hj e
  · simp only [hg] at e ⊢
    by_cases hji : j = i
    · simp only [if_pos hji]
      exact ⟨x, hx, hfp, hb, by rw [hp, hpx], hd⟩
    · simp only [if_neg hji] at e ⊢
      obtain ⟨y, a, b, c, d, g⟩ := h.frs j hj e
      have hyx : y ≠ x := fun hy => hnx j hj e (by rw [b, hy])
      exact ⟨y, a, b, by rw [c, hh y hyx], d, fun hd => by rw [hh y hyx]; exact g hd⟩
  · simp only [hg] at e1 e2 e3
    by_cases hj' : j = i
    · by_cases hk' : k = i
      · rw [hj', hk']
      · simp only [if_pos hj', if_neg hk'] at e1 e2 e3
        exact absurd (by rw [← e3, hfp]) (hnx k hk e2)
    · by_cases hk' : k = i
      · simp only [if_pos hk', if_neg hj'] at e1 e2 e3
        exact absurd (by rw [e3, hfp]) (hnx j hj e1)
      · simp only [if_neg hk', if_neg hj'] at e1 e2 e3
        exact h.dis j k hj hk e1 e2 e3
  · have hyx : y ≠ x := fun hy => by
      have := ha i hi
      simp only [hg, if_pos] at this
      rw [hasF_iff.2 ⟨hf, by rw [hfp, hy]⟩] at this
      cases this
    have := h.out y hy (fun j hj => by
      have e := ha j hj
      simp only [hg] at e
      by_cases hji : j = i
      · rw [hji, he]; rfl
      · rw [if_neg hji] at e; exact e)
    rw [hh y hyx]
    exact this

/-! The calls. -/
theorem save_t (h : TInv n m has pins P) (i : Nat) (hi : i < m) : (saveQ P i).1 = 0 ∧ TInv n m has pins (saveQ P i).2 ∧ ((saveQ P i).2.fr.getD i zeroF).dirty = false ∧ (∀ j, j < m → ((saveQ P i).2.fr.getD j zeroF).is = (P.fr.getD j zeroF).is ∧ ((saveQ P i).2.fr.getD j zeroF).page = (P.fr.getD j zeroF).page ∧ ((saveQ P i).2.fr.getD j zeroF).pins = (P.fr.getD j zeroF).pins ∧ ((P.fr.getD j zeroF).dirty = false → ((saveQ P i).2.fr.getD j zeroF).dirty = false)) ∧ (saveQ P i).2.hand = P.hand := by
  have hil : i < P.fr.length := by rw [h.len]; exact hi
  by_cases hd : (P.fr.getD i zeroF).dirty = true
  · have his : (P.fr.getD i zeroF).is = true := by
      cases e : (P.fr.getD i zeroF).is
      · have := h.emp i hi e
        rw [this] at hd; cases hd
      · rfl
    obtain ⟨x, hx, hpg, hb, hp, _⟩ := h.frs i hi his
    obtain ⟨s', e, ok, hF, hs, h1, h2⟩ := saveP_holds (n := x) h.ok h.F (by rw [h.sec]; omega) (h.hl x)
    have hq : saveQ P i = (0, ⟨P.fr.set i { P.fr.getD i zeroF with dirty := false }, P.hand, s'⟩) := by
      unfold saveQ
      rw [if_pos hd, hpg, hb, e]
      rfl
    rw [hq]
    have hg : ∀ j, ((P.fr.set i { P.fr.getD i zeroF with dirty := false }).getD j zeroF) = if j = i then { P.fr.getD i zeroF with dirty := false } else P.fr.getD j zeroF := fun j => getD_set _ _ _ _ _ hil
    refine ⟨rfl, (h.disk x ok hF hs h1 h2).same i x hi { P.fr.getD i zeroF with dirty := false } has pins his hpg his hpg hb hp (fun _ => h1) (fun _ _ => ⟨rfl, rfl⟩) h.hl, ?_, fun j hj => ?_, rfl⟩
    · simp only [hg, if_pos]
    · simp only [hg]
      by_cases hji : j = i
      · subst hji; simp
      · simp [if_neg hji]
  · have hq : saveQ P i = (0, P) := by unfold saveQ; rw [if_neg hd]
    rw [hq]
    exact ⟨rfl, h, by simpa using hd, fun j _ => ⟨rfl, rfl, rfl, id⟩, rfl⟩
theorem vac_t (h : TInv n m has pins P) (i : Nat) (hi : i < m) (hp : (P.fr.getD i zeroF).pins = 0) : (vacQ P i).1 = 0 ∧ TInv n m has pins (vacQ P i).2 ∧ (vacQ P i).2.fr.getD i zeroF = zeroF ∧ (vacQ P i).2.hand = P.hand ∧ ∀ y, (∀ j, j < m → hasF y (P.fr.getD j zeroF) = false) → ∀ j, j < m → hasF y ((vacQ P i).2.fr.getD j zeroF) = false := by
  obtain ⟨h0, h1, h2, h3, h4⟩ := save_t h i hi
  have hq : vacQ P i = (0, ⟨(saveQ P i).2.fr.set i zeroF, (saveQ P i).2.hand, (saveQ P i).2.s⟩) := by unfold vacQ; rw [if_pos h0]
  rw [hq]
  have hil : i < (saveQ P i).2.fr.length := by rw [h1.len]; exact hi
  have hg : ∀ j, (((saveQ P i).2.fr.set i zeroF).getD j zeroF) = if j = i then zeroF else (saveQ P i).2.fr.getD j zeroF := fun j => getD_set _ _ _ _ _ hil
  refine ⟨rfl, h1.empty i hi (fun x hx his hpg => ?_), by simp only [hg, if_pos], h4, fun y hy j hj => ?_⟩
  · obtain ⟨y, a, b, c, d, e⟩ := h1.frs i hi his
    have : y = x := by rw [hpg] at b; omega
    subst this
    exact ⟨e h2, by rw [← d, (h3 i hi).2.2.1, hp]⟩
  · simp only [hg]
    by_cases hji : j = i
    · rw [if_pos hji]; rfl
    · rw [if_neg hji]
      have e := hy j hj
      unfold hasF at e ⊢
      rw [(h3 j hj).1, (h3 j hj).2.1]
      exact e
/-- What room means. -/
def RoomT (n m : Nat) (has : Nat → List UInt8) (pins : Nat → Nat) (P : PSt) (r : Nat × Nat × PSt) : Prop :=
  TInv n m has pins r.2.2 ∧ (r.1 = 0 ∨ r.1 = 9) ∧ (r.1 = 0 → r.2.1 < m ∧ r.2.2.fr.getD r.2.1 zeroF = zeroF) ∧ ∀ y, (∀ j, j < m → hasF y (P.fr.getD j zeroF) = false) → ∀ j, j < m → hasF y (r.2.2.fr.getD j zeroF) = false
theorem clock_t : ∀ (k : Nat) (P : PSt), TInv n m has pins P → RoomT n m has pins P (clockQ k P)
  | 0, P, h => ⟨h, .inr rfl, fun e => (by cases e), fun y hy => hy⟩
  | k + 1, P, h => by
    have hm : ∀ x, x % P.fr.length < m := fun x => by rw [h.len]; exact Nat.mod_lt _ (by have := h.hd; omega)
    have hil : P.hand < P.fr.length := by rw [h.len]; exact h.hd
    unfold clockQ
    by_cases h0 : 0 < (P.fr.getD P.hand zeroF).pins
    · rw [if_pos h0]
      exact clock_t k (stepH P) (h.turn _ (hm _))
    · rw [if_neg h0]
      by_cases hu : (P.fr.getD P.hand zeroF).used = true
      · rw [if_pos hu]
        have his : (P.fr.getD P.hand zeroF).is = true := by
          cases e : (P.fr.getD P.hand zeroF).is
          · have := h.emp _ h.hd e
            rw [this] at hu; cases hu
          · rfl
        obtain ⟨x, hx, hpg, hb, hp, hd⟩ := h.frs _ h.hd his
        have h1 : TInv n m has pins (tiredQ P) := h.same P.hand x h.hd _ has pins his hpg his hpg hb hp hd (fun _ _ => ⟨rfl, rfl⟩) h.hl
        have hg : ∀ j, ((tiredQ P).fr.getD j zeroF) = if j = P.hand then { P.fr.getD P.hand zeroF with used := false } else P.fr.getD j zeroF := fun j => getD_set _ _ _ _ _ hil
        have htl : (tiredQ P).fr.length = P.fr.length := by simp [tiredQ]
        have h2 : TInv n m has pins (stepH (tiredQ P)) := h1.turn _ (by rw [htl]; exact hm _)
        obtain ⟨a, b, c, d⟩ := clock_t k (stepH (tiredQ P)) h2
        refine ⟨a, b, c, fun y hy => d y (fun j hj => ?_)⟩
        show hasF y ((tiredQ P).fr.getD j zeroF) = false
        rw [hg]
        by_cases hji : j = P.hand
        · rw [if_pos hji]
          have := hy j hj
          rw [hji] at this
          exact this
        · rw [if_neg hji]; exact hy j hj
      · rw [if_neg hu]
        obtain ⟨a, b, c, d, e⟩ := vac_t h P.hand h.hd (by omega)
        rw [if_pos a]
        refine ⟨b.turn _ ?_, .inl rfl, fun _ => ⟨h.hd, c⟩, e⟩
        rw [d]
        have : (vacQ P P.hand).2.fr.length = P.fr.length := vacQ_len _ _
        rw [this]; exact hm _
theorem room_t (h : TInv n m has pins P) : RoomT n m has pins P (roomQ P) := by
  unfold roomQ
  by_cases he : emptyF P.fr < P.fr.length
  · rw [if_pos he]
    have hy := firstPl_yes noneF P.fr he
    have hm : emptyF P.fr < m := by rw [← h.len]; exact he
    have hg : P.fr.getD (emptyF P.fr) zeroF = P.fr[emptyF P.fr]'he := by simp [he]
    refine ⟨h, .inl rfl, fun _ => ⟨hm, h.emp _ hm ?_⟩, fun y hy => hy⟩
    rw [hg]
    have e : noneF (P.fr[emptyF P.fr]'he) = true := hy
    generalize P.fr[emptyF P.fr]'he = f at *
    simpa [noneF] using e
  · rw [if_neg he]
    exact clock_t _ P h
theorem find_t (h : TInv n m has pins P) (x : Int) : (findF P.fr x < P.fr.length → findF P.fr x < m ∧ (P.fr.getD (findF P.fr x) zeroF).is = true ∧ (P.fr.getD (findF P.fr x) zeroF).page = x) ∧ (¬ findF P.fr x < P.fr.length → ∀ j, j < m → hasF x (P.fr.getD j zeroF) = false) := by
  refine ⟨fun hf => ?_, fun hf j hj => ?_⟩
  · have := firstPl_yes (hasF x) P.fr hf
    have hg : P.fr.getD (findF P.fr x) zeroF = P.fr[findF P.fr x]'hf := by simp [hf]
    rw [hg]
    exact ⟨by rw [← h.len]; exact hf, hasF_iff.1 this⟩
  · have hjl : j < P.fr.length := by rw [h.len]; exact hj
    have := firstPl_no (hasF x) P.fr j hjl (by unfold findF at hf; omega)
    simpa [hjl] using this
theorem err_t (h : TInv n m has pins P) {x : Nat} (hx : x < n) : errA P.s (x : Int) = 0 := by
  unfold errA
  rw [h.sec, if_pos (by omega)]
/-- A page comes into a frame, or all frames are pinned. -/
theorem fetch_t (h : TInv n m has pins P) {x : Nat} (hx : x < n) : TInv n m has pins (fetchQ P x).2.2 ∧ ((fetchQ P x).1 = 0 ∨ (fetchQ P x).1 = 9) ∧ ((fetchQ P x).1 = 0 → (fetchQ P x).2.1 < m ∧ ((fetchQ P x).2.2.fr.getD (fetchQ P x).2.1 zeroF).is = true ∧ ((fetchQ P x).2.2.fr.getD (fetchQ P x).2.1 zeroF).page = (x : Int) ∧ ((fetchQ P x).2.2.fr.getD (fetchQ P x).2.1 zeroF).b = has x) := by
  obtain ⟨f1, f2⟩ := find_t h (x : Int)
  have e0 := err_t h hx
  by_cases hf : findF P.fr (x : Int) < P.fr.length
  · have hq : fetchQ P x = (0, findF P.fr x, usedQ P (findF P.fr x)) := by unfold fetchQ; rw [if_pos e0, if_pos hf]
    rw [hq]
    obtain ⟨a, b, c⟩ := f1 hf
    generalize findF P.fr (x : Int) = i at *
    obtain ⟨y, hy, hpg, hb, hp, hd⟩ := h.frs i a b
    have hyx : y = x := by rw [c] at hpg; omega
    subst hyx
    have h1 : TInv n m has pins (usedQ P i) := h.same i y a _ has pins b hpg b hpg hb hp hd (fun _ _ => ⟨rfl, rfl⟩) h.hl
    have hg : (usedQ P i).fr.getD i zeroF = { P.fr.getD i zeroF with used := true } := by
      have := getD_set P.fr i i { P.fr.getD i zeroF with used := true } zeroF hf
      rw [if_pos rfl] at this
      exact this
    refine ⟨h1, .inl rfl, fun _ => ⟨a, ?_, ?_, ?_⟩⟩
    · show ((usedQ P i).fr.getD i zeroF).is = true
      rw [hg]; exact b
    · show ((usedQ P i).fr.getD i zeroF).page = _
      rw [hg]; exact c
    · show ((usedQ P i).fr.getD i zeroF).b = _
      rw [hg]; exact hb
  · have hq : fetchQ P x = intoQ (roomQ P) x := by unfold fetchQ; rw [if_pos e0, if_neg hf]
    rw [hq]
    obtain ⟨a, b, c, d⟩ := room_t h
    have hno := d x (f2 hf)
    generalize roomQ P = r at *
    obtain ⟨er, i, Q⟩ := r
    simp only at a b c hno
    rcases b with rfl | rfl
    · obtain ⟨ci, cz⟩ := c rfl
      have hho := (a.out x hx hno).1
      have hld := loadP_holds (n := x) a.F (by rw [a.sec]; omega) (a.hl x) hho
      have hiq : intoQ (0, i, Q) x = (0, i, ⟨Q.fr.set i ⟨true, x, 0, false, true, has x⟩, Q.hand, Q.s⟩) := by
        unfold intoQ
        simp only [hld, if_true]
      rw [hiq]
      have hg : (Q.fr.set i ⟨true, x, 0, false, true, has x⟩).getD i zeroF = ⟨true, x, 0, false, true, has x⟩ := by
        have := getD_set Q.fr i i ⟨true, x, 0, false, true, has x⟩ zeroF (by rw [a.len]; exact ci)
        rw [if_pos rfl] at this
        exact this
      refine ⟨a.fill i x ci hx _ has cz hno rfl rfl rfl rfl (fun _ => hho) (fun _ _ => rfl) a.hl, .inl rfl, fun _ => ⟨ci, ?_, ?_, ?_⟩⟩
      · simp only [hg]
      · simp only [hg]
      · simp only [hg]
    · have hiq : intoQ (9, i, Q) x = (9, 0, Q) := rfl
      rw [hiq]
      exact ⟨a, .inr rfl, fun e => (by cases e)⟩
theorem get_t (h : TInv n m has pins P) {x : Nat} (hx : x < n) : TInv n m has pins (getQ P x).2.2 ∧ (((getQ P x).2.1 = 0 ∧ (getQ P x).1 = has x) ∨ ((getQ P x).2.1 = 9 ∧ (getQ P x).1 = [])) := by
  obtain ⟨a, b, c⟩ := fetch_t h hx
  unfold getQ
  by_cases h0 : (fetchQ P x).1 = 0
  · rw [if_pos h0]
    exact ⟨a, .inl ⟨rfl, (c h0).2.2.2⟩⟩
  · rw [if_neg h0]
    exact ⟨a, .inr ⟨b.elim (fun e => absurd e h0) id, rfl⟩⟩
def upd {α : Type} (f : Nat → α) (x : Nat) (v : α) : Nat → α := fun y => if y = x then v else f y
theorem upd_same {α : Type} (f : Nat → α) (x : Nat) (v : α) : upd f x v x = v := if_pos rfl
theorem upd_other {α : Type} (f : Nat → α) {x y : Nat} (v : α) (h : y ≠ x) : upd f x v y = f y := if_neg h
theorem pins_t (h : TInv n m has pins P) (i x k : Nat) (hi : i < m) (his : (P.fr.getD i zeroF).is = true) (hpg : (P.fr.getD i zeroF).page = (x : Int)) : TInv n m has (upd pins x k) (pinsQ P i k) := by
  obtain ⟨y, hy, hp, hb, hn, hd⟩ := h.frs i hi his
  have hyx : y = x := by rw [hpg] at hp; omega
  subst hyx
  exact h.same i y hi _ has (upd pins y k) his hpg his hpg hb (upd_same _ _ _).symm hd (fun z hz => ⟨rfl, upd_other _ _ hz⟩) h.hl
theorem pin_t (h : TInv n m has pins P) {x : Nat} (hx : x < n) : ((pinQ P x).1 = 0 ∧ TInv n m has (upd pins x (pins x + 1)) (pinQ P x).2) ∨ ((pinQ P x).1 = 9 ∧ TInv n m has pins (pinQ P x).2) := by
  obtain ⟨a, b, c⟩ := fetch_t h hx
  unfold pinQ
  by_cases h0 : (fetchQ P x).1 = 0
  · rw [if_pos h0]
    obtain ⟨ci, c1, c2, _⟩ := c h0
    obtain ⟨y, _, hp, _, hn, _⟩ := a.frs _ ci c1
    have hyx : y = x := by rw [c2] at hp; omega
    rw [hn, hyx]
    exact .inl ⟨rfl, pins_t a _ x _ ci c1 c2⟩
  · rw [if_neg h0]
    exact .inr ⟨b.elim (fun e => absurd e h0) id, a⟩
theorem unpin_t (h : TInv n m has pins P) {x : Nat} (hx : x < n) : (0 < pins x ∧ (unpinQ P x).1 = 0 ∧ TInv n m has (upd pins x (pins x - 1)) (unpinQ P x).2) ∨ (pins x = 0 ∧ (unpinQ P x).1 = 6 ∧ TInv n m has pins (unpinQ P x).2) := by
  obtain ⟨f1, f2⟩ := find_t h (x : Int)
  unfold unpinQ
  by_cases hf : findF P.fr (x : Int) < P.fr.length
  · rw [if_pos hf]
    obtain ⟨a, b, c⟩ := f1 hf
    obtain ⟨y, _, hp, _, hn, _⟩ := h.frs _ a b
    have hyx : y = x := by rw [c] at hp; omega
    rw [hn, hyx]
    by_cases hz : pins x = 0
    · rw [if_pos hz]
      exact .inr ⟨hz, rfl, h⟩
    · rw [if_neg hz]
      exact .inl ⟨by omega, rfl, pins_t h _ x _ a b c⟩
  · rw [if_neg hf]
    exact .inr ⟨(h.out x hx (f2 hf)).2, rfl, h⟩
theorem evict_t (h : TInv n m has pins P) (x : Int) : TInv n m has pins (evictQ P x).2 := by
  unfold evictQ
  split
  · rename_i hx
    split
    · rename_i hc
      exact (vac_t h _ (by rw [← h.len]; omega) hc.2).2.1
    · exact h
  · exact h
theorem clean_t : ∀ (k : Nat) (P : PSt), TInv n m has pins P → k ≤ m → (∀ j, j < m - k → (P.fr.getD j zeroF).dirty = false) → (cleanI k P).1 = 0 ∧ TInv n m has pins (cleanI k P).2 ∧ ∀ j, j < m → ((cleanI k P).2.fr.getD j zeroF).dirty = false
  | 0, P, h, _, hd => ⟨rfl, h, fun j hj => hd j (by omega)⟩
  | k + 1, P, h, hk, hd => by
    obtain ⟨a, b, c, d, _⟩ := save_t h (P.fr.length - (k + 1)) (by rw [h.len]; omega)
    unfold cleanI
    rw [if_pos a]
    refine clean_t k _ b (by omega) (fun j hj => ?_)
    by_cases e : j = P.fr.length - (k + 1)
    · rw [e]; exact c
    · rw [h.len] at e
      exact (d j (by omega)).2.2.2 (hd j (by omega))
theorem cleanQ_t (h : TInv n m has pins P) : (cleanQ P).1 = 0 ∧ TInv n m has pins (cleanQ P).2 ∧ ∀ j, j < m → ((cleanQ P).2.fr.getD j zeroF).dirty = false :=
  clean_t _ P h (by rw [h.len]; exact Nat.le_refl _) (fun j hj => by rw [h.len] at hj; omega)
theorem put_t (h : TInv n m has pins P) {x : Nat} (hx : x < n) {b : List UInt8} (hb : b.length = 4096) : ((putQ P x b).1 = 0 ∧ TInv n m (upd has x b) pins (putQ P x b).2) ∨ ((putQ P x b).1 = 9 ∧ TInv n m has pins (putQ P x b).2) := by
  obtain ⟨f1, f2⟩ := find_t h (x : Int)
  have e0 := err_t h hx
  have hl : ∀ y, (upd has x b y).length = 4096 := fun y => by
    unfold upd
    split
    · exact hb
    · exact h.hl y
  unfold putQ
  rw [if_pos e0, if_pos hb]
  by_cases hf : findF P.fr (x : Int) < P.fr.length
  · rw [if_pos hf]
    obtain ⟨a, c, d⟩ := f1 hf
    obtain ⟨y, _, hp, _, hn, _⟩ := h.frs _ a c
    have hyx : y = x := by rw [d] at hp; omega
    subst hyx
    exact .inl ⟨rfl, h.same _ y a _ (upd has y b) pins c d rfl rfl (upd_same _ _ _).symm hn (fun e => by cases e) (fun z hz => ⟨upd_other _ _ hz, rfl⟩) hl⟩
  · rw [if_neg hf]
    obtain ⟨a, c, d, e⟩ := room_t h
    have hno := e x (f2 hf)
    by_cases h0 : (roomQ P).1 = 0
    · rw [if_pos h0]
      obtain ⟨ci, cz⟩ := d h0
      refine .inl ⟨rfl, a.fill _ x ci hx _ (upd has x b) cz hno rfl rfl (upd_same _ _ _).symm ?_ (fun e => by cases e) (fun z hz => upd_other _ _ hz) hl⟩
      show ((roomQ P).2.2.fr.getD (roomQ P).2.1 zeroF).pins = 0
      rw [cz]; rfl
    · rw [if_neg h0]
      exact .inr ⟨c.elim (fun e => absurd e h0) id, a⟩
/-- With nothing dirty the disk has all. -/
theorem TInv.all (h : TInv n m has pins P) (hd : ∀ j, j < m → (P.fr.getD j zeroF).dirty = false) {x : Nat} (hx : x < n) : Holds P.s x (has x) := by
  by_cases hno : ∀ i, i < m → hasF x (P.fr.getD i zeroF) = false
  · exact (h.out x hx hno).1
  · obtain ⟨i, hi⟩ := Classical.not_forall.1 hno
    obtain ⟨him, hf⟩ := Classical.not_imp.1 hi
    have hf' := hasF_iff.1 (Bool.not_eq_false _ ▸ hf)
    obtain ⟨y, _, hp, _, _, g⟩ := h.frs i him hf'.1
    have hyx : y = x := by rw [hf'.2] at hp; omega
    subst hyx
    exact g (hd i him)
end
/-- A pool that was just made, over a disk of noughts. -/
theorem new_t (n m : Nat) (h1 : 0 < n) (h2 : 8 * n ≤ 32768) (hm : 0 < m) : TInv n m (fun _ => List.replicate 4096 0) (fun _ => 0) (newQ (newS (8 * n)) m) := by
  have hg : ∀ i, (newQ (newS (8 * n)) m).fr.getD i zeroF = zeroF := fun i => by
    simp only [newQ, List.getD_eq_getElem?_getD, List.getElem?_replicate]
    split <;> rfl
  refine ⟨OkSt.new (by omega) h2, rfl, secs_new _, List.length_replicate, hm, fun _ => List.length_replicate, fun i _ _ => hg i, fun i _ e => ?_, fun i j _ _ e => ?_, fun x hx _ => ⟨fun i hi => ?_, rfl⟩⟩
  · rw [hg] at e; cases e
  · rw [hg] at e; cases e
  · show sectB (List.replicate (512 * (8 * n)) 0) (8 * x + i) = partB (List.replicate 4096 0) i
    unfold sectB partB
    rw [List.drop_replicate, List.take_replicate, List.drop_replicate, List.take_replicate]
    congr 1
    omega
end Go.Proofs.YtknagdbhhfelnaaDoor
