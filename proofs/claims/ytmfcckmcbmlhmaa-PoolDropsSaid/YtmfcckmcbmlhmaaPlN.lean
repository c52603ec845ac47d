/-
  Pools, plain: one page put, flushed, put again, pinned, saved, dropped. Conditions: none.
-/
import Derived.Test.YtmfcckmcbmlhmaaPlM
namespace Go.Proofs.Ytmfcckmcbmlhmaa
open Go.RowKit Go.Maps
set_option maxRecDepth 100000

/-- A pool of eight frames, of which the first one may have a page. -/
def oneP (f : Fr) (s : St) : PSt := ⟨f :: List.replicate 7 zeroF, 0, s⟩
theorem one_find {x : Int} {f : Fr} (h : f.is = true) (hp : f.page = x) (s : St) : findF (oneP f s).fr x = 0 := by
  have : hasF x f = true := hasF_iff.2 ⟨h, hp⟩
  show (if hasF x f then 0 else _) = 0
  rw [if_pos this]
theorem one_lt (f : Fr) (s : St) : 0 < (oneP f s).fr.length := show 0 < 8 by decide
theorem one_none (x : Int) (s : St) : findF (oneP zeroF s).fr x = 8 := rfl
theorem one_err {s : St} {x : Int} (h : errA s x = 0) (f : Fr) : errA (oneP f s).s x = 0 := h
section
variable {x : Int} {s s' : St} {b c : List UInt8} (he : errA s x = 0)
theorem oneQ_put0 (he : errA s x = 0) (hb : b.length = 4096) : putQ (oneP zeroF s) x b = (0, oneP ⟨true, x, 0, true, true, b⟩ s) := by
  have hf : ¬ findF (oneP zeroF s).fr x < (oneP zeroF s).fr.length := show ¬ (8 : Nat) < 8 by decide
  unfold putQ
  rw [if_pos (one_err he _), if_pos hb, if_neg hf]
  rfl
theorem oneQ_put1 (he : errA s x = 0) (hb : b.length = 4096) (f : Fr) (h : f.is = true) (hp : f.page = x) : putQ (oneP f s) x b = (0, oneP ⟨true, x, f.pins, true, true, b⟩ s) := by
  unfold putQ
  rw [if_pos (one_err he _), if_pos hb, one_find h hp s, if_pos (one_lt f s)]
  rfl
theorem oneQ_clean (f : Fr) (hd : f.dirty = true) (hs : saveP s f.page f.b = (0, s')) : cleanQ (oneP f s) = (0, oneP { f with dirty := false } s') := by
  have h0 : saveQ (oneP f s) 0 = (0, oneP { f with dirty := false } s') := by
    have e1 : (oneP f s).fr.getD 0 zeroF = f := rfl
    have e2 : (oneP f s).s = s := rfl
    unfold saveQ
    rw [e1, e2, if_pos hd, hs]
    rfl
  have hk : ∀ k, k ≤ 7 → cleanI k (oneP { f with dirty := false } s') = (0, oneP { f with dirty := false } s') := fun k => by
    induction k with
    | zero => intro _; rfl
    | succ k ih =>
      intro hk
      have : saveQ (oneP { f with dirty := false } s') ((oneP { f with dirty := false } s').fr.length - (k + 1)) = (0, oneP { f with dirty := false } s') := by
        have e : ((oneP { f with dirty := false } s').fr.getD ((oneP { f with dirty := false } s').fr.length - (k + 1)) zeroF).dirty = false := by
          have hl : (oneP { f with dirty := false } s').fr.length = 8 := rfl
          rw [hl]
          have : 8 - (k + 1) = (7 - (k + 1)) + 1 := by omega
          rw [this]
          show ((List.replicate 7 zeroF).getD (7 - (k + 1)) zeroF).dirty = false
          simp only [List.getD_eq_getElem?_getD, List.getElem?_replicate]
          split <;> rfl
        unfold saveQ
        rw [e]
        rfl
      rw [cleanI, this]
      exact (if_pos rfl).trans (ih (by omega))
  show cleanI (7 + 1) (oneP f s) = _
  rw [cleanI]
  show (if (saveQ (oneP f s) 0).1 = 0 then cleanI 7 (saveQ (oneP f s) 0).2 else saveQ (oneP f s) 0) = _
  rw [h0]
  exact (if_pos rfl).trans (hk 7 (Nat.le_refl _))
theorem oneQ_flush {s2 : St} (f : Fr) (hd : f.dirty = true) (hs : saveP s f.page f.b = (0, s')) (hf : flushR s' = (0, s2)) : flushQ (oneP f s) = (0, oneP { f with dirty := false } s2) := by
  unfold flushQ
  rw [oneQ_clean f hd hs]
  show (if (0 : Nat) = 0 then ((flushR s').1, _) else _) = _
  rw [if_pos rfl]
  show ((flushR s').1, (⟨(oneP { f with dirty := false } s').fr, 0, (flushR s').2⟩ : PSt)) = _
  rw [hf]
  rfl
theorem oneQ_pin (he : errA s x = 0) (f : Fr) (h : f.is = true) (hp : f.page = x) : pinQ (oneP f s) x = (0, oneP { f with used := true, pins := f.pins + 1 } s) ∧ ((fetchQ (oneP f s) x).2.2.fr.getD (fetchQ (oneP f s) x).2.1 zeroF).pins = f.pins := by
  have hq : fetchQ (oneP f s) x = (0, 0, usedQ (oneP f s) 0) := by
    unfold fetchQ
    rw [if_pos (one_err he _), one_find h hp s, if_pos (one_lt f s)]
  unfold pinQ
  rw [hq]
  exact ⟨rfl, rfl⟩
theorem oneQ_evict (f : Fr) (h : f.is = true) (hp : f.pins = 0) (hd : f.dirty = true) (hs : saveP s f.page f.b = (0, s')) : evictQ (oneP f s) 0 = (0, oneP zeroF s') := by
  have e1 : (oneP f s).fr.getD 0 zeroF = f := rfl
  have e2 : (oneP f s).s = s := rfl
  have h0 : saveQ (oneP f s) 0 = (0, oneP { f with dirty := false } s') := by
    unfold saveQ
    rw [e1, e2, if_pos hd, hs]
    rfl
  have hv : vacQ (oneP f s) 0 = (0, oneP zeroF s') := by
    unfold vacQ
    rw [h0]
    rfl
  unfold evictQ
  rw [if_pos ⟨by omega, show (0 : Int) < ((8 : Nat) : Int) by omega⟩]
  show (if f.is = true ∧ f.pins = 0 then vacQ (oneP f s) 0 else _) = _
  rw [if_pos ⟨h, hp⟩, hv]
theorem oneQ_held (f : Fr) (hp : f.pins ≠ 0) : evictQ (oneP f s) 0 = (6, oneP f s) := by
  unfold evictQ
  rw [if_pos ⟨by omega, show (0 : Int) < ((8 : Nat) : Int) by omega⟩]
  show (if f.is = true ∧ f.pins = 0 then vacQ (oneP f s) 0 else _) = _
  rw [if_neg (fun h => hp h.2)]
theorem oneQ_drop1 (he : errA s x = 0) (f : Fr) (h : f.is = true) (hp : f.page = x) : dropQ (oneP f s) x = (0, oneP zeroF s) := by
  unfold dropQ
  rw [if_pos (one_err he _), one_find h hp s, if_pos (one_lt f s)]
  rfl
theorem oneQ_drop0 (he : errA s x = 0) : dropQ (oneP zeroF s) x = (0, oneP zeroF s) := by
  unfold dropQ
  rw [if_pos (one_err he _), one_none x s]
  rfl
theorem oneQ_reset (f : Fr) : resetQ (oneP f s) = (0, oneP zeroF s) := rfl
theorem oneQ_unpin : unpinQ (oneP zeroF s) x = (6, oneP zeroF s) ∧ ((oneP zeroF s).fr.getD (findF (oneP zeroF s).fr x) zeroF).pins = 0 := by
  unfold unpinQ
  rw [one_none x s]
  exact ⟨rfl, rfl⟩
theorem oneQ_get (he : errA s x = 0) (hl : loadP s x = (c, 0, s)) : (getQ (oneP zeroF s) x).1 = c ∧ (getQ (oneP zeroF s) x).2.1 = 0 := by
  have hf : fetchQ (oneP zeroF s) x = (0, 0, oneP ⟨true, x, 0, false, true, c⟩ s) := by
    have hn : ¬ findF (oneP zeroF s).fr x < (oneP zeroF s).fr.length := show ¬ (8 : Nat) < 8 by decide
    unfold fetchQ
    rw [if_pos (one_err he _), if_neg hn]
    have hr : roomQ (oneP zeroF s) = (0, 0, oneP zeroF s) := rfl
    rw [hr]
    unfold intoQ
    have hl' : loadP ((0, 0, oneP zeroF s) : Nat × Nat × PSt).2.2.s x = (c, 0, s) := hl
    rw [hl']
    rfl
  unfold getQ
  rw [hf]
  exact ⟨rfl, rfl⟩
end
theorem one_frames (f : Fr) (s : St) : (oneP f s).fr.length = 8 ∧ (oneP f s).fr.getD 0 zeroF = f ∧ ∀ i, 0 < i → (oneP f s).fr.getD i zeroF = zeroF := by
  refine ⟨rfl, rfl, fun i hi => ?_⟩
  obtain ⟨j, rfl⟩ : ∃ j, i = j + 1 := ⟨i - 1, by omega⟩
  show (List.replicate 7 zeroF).getD j zeroF = zeroF
  simp only [List.getD_eq_getElem?_getD, List.getElem?_replicate]
  split <;> rfl
/-- The states of the statement PoolDrops. -/
structure Drops (X : Nat) (ra rb : List UInt8) (pinned : Bool) (how : Nat) (Q0 Q1 Q2 Q3 Q4 Q5 Q6 : PSt) (er : Nat) (c : List UInt8) : Prop where
  e0 : newQ (newS 80) 8 = Q0
  e1 : putQ Q0 X ra = (0, Q1)
  e2 : flushQ Q1 = (0, Q2)
  e3 : putQ Q2 X rb = (0, Q3)
  e4 : if pinned then pinQ Q3 X = (0, Q4) ∧ ((fetchQ Q3 X).2.2.fr.getD (fetchQ Q3 X).2.1 zeroF).pins = 0 else Q4 = Q3
  f4 : Q4.fr.length = 8 ∧ (Q4.fr.getD 0 zeroF).is = true ∧ (Q4.fr.getD 0 zeroF).page = (X : Int) ∧ ∀ i, 0 < i → (Q4.fr.getD i zeroF).is = false
  e5 : match how with | 0 => Q5 = Q4 | 1 => cleanQ Q4 = (0, Q5) | 2 => evictQ Q4 0 = (er, Q5) ∧ er = (if pinned then 6 else 0) | _ => resetQ Q4 = (0, Q5)
  e6 : dropQ Q5 X = (0, Q6)
  e7 : unpinQ Q6 X = (6, Q6) ∧ (Q6.fr.getD (findF Q6.fr X) zeroF).pins = 0
  f6 : Q6.fr.length = 8 ∧ ∀ i, (Q6.fr.getD i zeroF).is = false
  e8 : (getQ Q6 X).1 = c ∧ (getQ Q6 X).2.1 = 0
  hc : c = (if how = 1 ∨ (how = 2 ∧ pinned = false) then rb else ra)
theorem drops_are (X : Nat) (hX : X < 10) (ra rb : List UInt8) (ha : ra.length = 4096) (hb : rb.length = 4096) (pinned : Bool) (how : Nat) (hh : how < 4) : ∃ Q0 Q1 Q2 Q3 Q4 Q5 Q6 er c, Drops X ra rb pinned how Q0 Q1 Q2 Q3 Q4 Q5 Q6 er c := by
  have hsec : secs (newS 80) = 80 := secs_new 80
  have ok0 : OkSt (newS 80) := OkSt.new (by omega) (by omega)
  obtain ⟨s1, v1, ok1, F1, c1, g1, _⟩ := saveP_holds (n := X) (s := newS 80) ok0 rfl (by rw [hsec]; omega) ha
  have hfl : flushR s1 = (0, settleS (fun _ => 512) s1) := by
    unfold flushR
    rw [F1]
    have : tick s1 = s1 := by cases s1; simp at F1; subst F1; rfl
    rw [this]
    rfl
  have ok2 := ok1.settle (fun _ => 512)
  have F2 : (settleS (fun _ => 512) s1).F = none := F1
  have c2 : secs (settleS (fun _ => 512) s1) = 80 := (secs_settle _ ok1).trans (c1.trans hsec)
  have g2 := flush_holds ok1 g1
  generalize settleS (fun _ => 512) s1 = s2 at *
  obtain ⟨s3, v3, ok3, F3, c3, g3, _⟩ := saveP_holds (n := X) (s := s2) ok2 F2 (by rw [c2]; omega) hb
  rw [c2] at c3
  have er0 : errA (newS 80) (X : Int) = 0 := err_in ⟨by omega, by rw [hsec]; omega⟩
  have er2 : errA s2 (X : Int) = 0 := err_in ⟨by omega, by rw [c2]; omega⟩
  have er3 : errA s3 (X : Int) = 0 := err_in ⟨by omega, by rw [c3]; omega⟩
  have l2 := loadP_holds (n := X) F2 (by rw [c2]; omega) ha g2
  have l3 := loadP_holds (n := X) F3 (by rw [c3]; omega) hb g3
  have E1 := oneQ_put0 (x := (X : Int)) er0 ha
  have E2 := oneQ_flush (s := newS 80) ⟨true, (X : Int), 0, true, true, ra⟩ rfl v1 hfl
  have E3 := oneQ_put1 (x := (X : Int)) (s := s2) er2 hb ⟨true, (X : Int), 0, false, true, ra⟩ rfl rfl
  have E4 := oneQ_pin (x := (X : Int)) (s := s2) er2 ⟨true, (X : Int), 0, true, true, rb⟩ rfl rfl
  have F6 : ∀ s, (oneP zeroF s).fr.length = 8 ∧ ∀ i, ((oneP zeroF s).fr.getD i zeroF).is = false := fun s => ⟨rfl, fun i => by
    by_cases h : 0 < i
    · rw [(one_frames zeroF s).2.2 i h]; rfl
    · obtain rfl : i = 0 := by omega
      rfl⟩
  have F4 : ∀ f : Fr, f.is = true → f.page = (X : Int) → ∀ s, (oneP f s).fr.length = 8 ∧ ((oneP f s).fr.getD 0 zeroF).is = true ∧ ((oneP f s).fr.getD 0 zeroF).page = (X : Int) ∧ ∀ i, 0 < i → ((oneP f s).fr.getD i zeroF).is = false := fun f h1 h2 s =>
    ⟨rfl, h1, h2, fun i h => by rw [(one_frames f s).2.2 i h]; rfl⟩
  have hk : how = 0 ∨ how = 1 ∨ how = 2 ∨ how = 3 := by omega
  cases pinned
  · rcases hk with rfl | rfl | rfl | rfl
    · exact ⟨_, _, _, _, _, _, _, 0, _, rfl, E1, E2, E3, rfl, F4 ⟨true, (X : Int), 0, true, true, rb⟩ rfl rfl s2, rfl, oneQ_drop1 er2 ⟨true, (X : Int), 0, true, true, rb⟩ rfl rfl, oneQ_unpin, F6 s2, oneQ_get er2 l2, rfl⟩
    · exact ⟨_, _, _, _, _, _, _, 0, _, rfl, E1, E2, E3, rfl, F4 ⟨true, (X : Int), 0, true, true, rb⟩ rfl rfl s2, oneQ_clean ⟨true, (X : Int), 0, true, true, rb⟩ rfl v3, oneQ_drop1 er3 ⟨true, (X : Int), 0, false, true, rb⟩ rfl rfl, oneQ_unpin, F6 s3, oneQ_get er3 l3, rfl⟩
    · exact ⟨_, _, _, _, _, _, _, 0, _, rfl, E1, E2, E3, rfl, F4 ⟨true, (X : Int), 0, true, true, rb⟩ rfl rfl s2, ⟨oneQ_evict ⟨true, (X : Int), 0, true, true, rb⟩ rfl rfl rfl v3, rfl⟩, oneQ_drop0 er3, oneQ_unpin, F6 s3, oneQ_get er3 l3, rfl⟩
    · exact ⟨_, _, _, _, _, _, _, 0, _, rfl, E1, E2, E3, rfl, F4 ⟨true, (X : Int), 0, true, true, rb⟩ rfl rfl s2, oneQ_reset ⟨true, (X : Int), 0, true, true, rb⟩, oneQ_drop0 er2, oneQ_unpin, F6 s2, oneQ_get er2 l2, rfl⟩
  · rcases hk with rfl | rfl | rfl | rfl
    · exact ⟨_, _, _, _, _, _, _, 0, _, rfl, E1, E2, E3, E4, F4 ⟨true, (X : Int), 1, true, true, rb⟩ rfl rfl s2, rfl, oneQ_drop1 er2 ⟨true, (X : Int), 1, true, true, rb⟩ rfl rfl, oneQ_unpin, F6 s2, oneQ_get er2 l2, rfl⟩
    · exact ⟨_, _, _, _, _, _, _, 0, _, rfl, E1, E2, E3, E4, F4 ⟨true, (X : Int), 1, true, true, rb⟩ rfl rfl s2, oneQ_clean ⟨true, (X : Int), 1, true, true, rb⟩ rfl v3, oneQ_drop1 er3 ⟨true, (X : Int), 1, false, true, rb⟩ rfl rfl, oneQ_unpin, F6 s3, oneQ_get er3 l3, rfl⟩
    · exact ⟨_, _, _, _, _, _, _, 6, _, rfl, E1, E2, E3, E4, F4 ⟨true, (X : Int), 1, true, true, rb⟩ rfl rfl s2, ⟨oneQ_held ⟨true, (X : Int), 1, true, true, rb⟩ Nat.one_ne_zero, rfl⟩, oneQ_drop1 er2 ⟨true, (X : Int), 1, true, true, rb⟩ rfl rfl, oneQ_unpin, F6 s2, oneQ_get er2 l2, rfl⟩
    · exact ⟨_, _, _, _, _, _, _, 0, _, rfl, E1, E2, E3, E4, F4 ⟨true, (X : Int), 1, true, true, rb⟩ rfl rfl s2, oneQ_reset ⟨true, (X : Int), 1, true, true, rb⟩, oneQ_drop0 er2, oneQ_unpin, F6 s2, oneQ_get er2 l2, rfl⟩
end Go.Proofs.Ytmfcckmcbmlhmaa
