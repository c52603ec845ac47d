/-
  Pools, plain: the chapter's examples. Conditions: none.
-/
import Derived.Test.YtmfcckmcbmlhmaaPlK
namespace Go.Proofs.Ytmfcckmcbmlhmaa
open Go.RowKit Go.Maps
set_option maxRecDepth 100000

theorem clock_pinned {k : Nat} {P : PSt} (h : 0 < (P.fr.getD P.hand zeroF).pins) : clockQ (k + 1) P = clockQ k (stepH P) := by rw [clockQ, if_pos h]
theorem clock_used {k : Nat} {P : PSt} (h : (P.fr.getD P.hand zeroF).pins = 0) (hu : (P.fr.getD P.hand zeroF).used = true) : clockQ (k + 1) P = clockQ k (stepH (tiredQ P)) := by rw [clockQ, if_neg (by omega), if_pos hu]
theorem clock_pinned_to {k : Nat} {P Q : PSt} (h : 0 < (P.fr.getD P.hand zeroF).pins) (hQ : stepH P = Q) : clockQ (k + 1) P = clockQ k Q := hQ ▸ clock_pinned h
theorem clock_used_to {k : Nat} {P Q : PSt} (h : (P.fr.getD P.hand zeroF).pins = 0) (hu : (P.fr.getD P.hand zeroF).used = true) (hQ : stepH (tiredQ P) = Q) : clockQ (k + 1) P = clockQ k Q := hQ ▸ clock_used h hu
theorem clock_goes {k : Nat} {P : PSt} {s' : St} (h : (P.fr.getD P.hand zeroF).pins = 0) (hu : (P.fr.getD P.hand zeroF).used = false) (hd : (P.fr.getD P.hand zeroF).dirty = true) (hs : saveP P.s (P.fr.getD P.hand zeroF).page (P.fr.getD P.hand zeroF).b = (0, s')) :
    clockQ (k + 1) P = (0, P.hand, stepH ⟨(P.fr.set P.hand { P.fr.getD P.hand zeroF with dirty := false }).set P.hand zeroF, P.hand, s'⟩) := by
  have h1 : saveQ P P.hand = (0, ⟨P.fr.set P.hand { P.fr.getD P.hand zeroF with dirty := false }, P.hand, s'⟩) := by unfold saveQ; rw [if_pos hd, hs]; rfl
  have h2 : vacQ P P.hand = (0, ⟨(P.fr.set P.hand { P.fr.getD P.hand zeroF with dirty := false }).set P.hand zeroF, P.hand, s'⟩) := by unfold vacQ; rw [h1]; rfl
  rw [clockQ, if_neg (by omega), if_neg (by rw [hu]; decide), h2]
  rfl
theorem room_clock {P : PSt} (h : ¬ emptyF P.fr < P.fr.length) : roomQ P = clockQ (2 * P.fr.length) P := if_neg h
theorem put_room {P : PSt} {x : Int} {b : List UInt8} {i : Nat} {Q : PSt} (he : errA P.s x = 0) (hb : b.length = 4096) (hf : ¬ findF P.fr x < P.fr.length) (hr : roomQ P = (0, i, Q)) : putQ P x b = (0, laidQ Q i x b) := by
  unfold putQ
  rw [if_pos he, if_pos hb, if_neg hf, hr]
  rfl
theorem pin_found {P : PSt} {x : Int} {i : Nat} (he : errA P.s x = 0) (hf : findF P.fr x = i) (hi : i < P.fr.length) : pinQ P x = (0, pinsQ (usedQ P i) i (((usedQ P i).fr.getD i zeroF).pins + 1)) := by
  have : fetchQ P x = (0, i, usedQ P i) := by unfold fetchQ; rw [if_pos he, hf, if_pos hi]
  unfold pinQ
  rw [this]
  rfl
theorem err_in {s : St} {x : Int} (h : 0 ≤ x ∧ x < ((secs s / 8 : Nat) : Int)) : errA s x = 0 := if_pos h

/-! Nine pages put into eight frames, then eight of them pinned. -/
section
variable (b : Nat → List UInt8) (s0 s1 : St)
def exF (i : Nat) : Fr := ⟨true, (i : Int), 0, true, true, b i⟩
def exT (i : Nat) : Fr := ⟨true, (i : Int), 0, true, false, b i⟩
def exN (i : Nat) : Fr := ⟨true, (i : Int), 1, true, true, b i⟩
def exP (k : Nat) : PSt := ⟨(List.range k).map (exF b) ++ List.replicate (8 - k) zeroF, 0, s0⟩
def exL (j : Nat) : List Fr := [if 8 ≤ j then exN b 8 else exF b 8, if 1 ≤ j then exN b 1 else exT b 1, if 2 ≤ j then exN b 2 else exT b 2, if 3 ≤ j then exN b 3 else exT b 3, if 4 ≤ j then exN b 4 else exT b 4, if 5 ≤ j then exN b 5 else exT b 5, if 6 ≤ j then exN b 6 else exT b 6, if 7 ≤ j then exN b 7 else exT b 7]
def exQ (j : Nat) : PSt := ⟨exL b j, 1, s1⟩
def exU (j : Nat) : PSt := ⟨[if 1 ≤ j then exT b 0 else exF b 0, if 2 ≤ j then exT b 1 else exF b 1, if 3 ≤ j then exT b 2 else exF b 2, if 4 ≤ j then exT b 3 else exF b 3, if 5 ≤ j then exT b 4 else exF b 4, if 6 ≤ j then exT b 5 else exF b 5, if 7 ≤ j then exT b 6 else exF b 6, if 8 ≤ j then exT b 7 else exF b 7], j % 8, s0⟩
def exV (j : Nat) : PSt := ⟨exL b 8, j, s1⟩
variable {b : Nat → List UInt8} {s0 s1 : St} (hb : ∀ i, (b i).length = 4096) (h0 : ∀ x : Nat, x < 12 → errA s0 (x : Int) = 0) (h1 : ∀ x : Nat, x < 12 → errA s1 (x : Int) = 0) (hs : saveP s0 0 (b 0) = (0, s1))
include hb h0 in
theorem ex_put (k : Nat) (hk : k < 8) : putQ (exP b s0 k) (k : Int) (b k) = (0, exP b s0 (k + 1)) := by
  have he : errA (exP b s0 k).s (k : Int) = 0 := h0 k (by omega)
  have hk' : k = 0 ∨ k = 1 ∨ k = 2 ∨ k = 3 ∨ k = 4 ∨ k = 5 ∨ k = 6 ∨ k = 7 := by omega
  rcases hk' with rfl | rfl | rfl | rfl | rfl | rfl | rfl | rfl
  · exact put_room he (hb 0) (show ¬ (8 : Nat) < 8 by decide) (show roomQ (exP b s0 0) = (0, 0, exP b s0 0) from rfl)
  · exact put_room he (hb 1) (show ¬ (8 : Nat) < 8 by decide) (show roomQ (exP b s0 1) = (0, 1, exP b s0 1) from rfl)
  · exact put_room he (hb 2) (show ¬ (8 : Nat) < 8 by decide) (show roomQ (exP b s0 2) = (0, 2, exP b s0 2) from rfl)
  · exact put_room he (hb 3) (show ¬ (8 : Nat) < 8 by decide) (show roomQ (exP b s0 3) = (0, 3, exP b s0 3) from rfl)
  · exact put_room he (hb 4) (show ¬ (8 : Nat) < 8 by decide) (show roomQ (exP b s0 4) = (0, 4, exP b s0 4) from rfl)
  · exact put_room he (hb 5) (show ¬ (8 : Nat) < 8 by decide) (show roomQ (exP b s0 5) = (0, 5, exP b s0 5) from rfl)
  · exact put_room he (hb 6) (show ¬ (8 : Nat) < 8 by decide) (show roomQ (exP b s0 6) = (0, 6, exP b s0 6) from rfl)
  · exact put_room he (hb 7) (show ¬ (8 : Nat) < 8 by decide) (show roomQ (exP b s0 7) = (0, 7, exP b s0 7) from rfl)
include hb h0 hs in
theorem ex_put8 : putQ (exP b s0 8) 8 (b 8) = (0, exQ b s1 0) := by
  have he : errA (exP b s0 8).s 8 = 0 := h0 8 (by omega)
  have hr : roomQ (exP b s0 8) = (0, 0, ⟨[zeroF, exT b 1, exT b 2, exT b 3, exT b 4, exT b 5, exT b 6, exT b 7], 1, s1⟩) := by
    have hne : ¬ emptyF (exP b s0 8).fr < (exP b s0 8).fr.length := show ¬ (8 : Nat) < 8 by decide
    rw [room_clock hne]
    show clockQ 16 (exP b s0 8) = _
    rw [show exP b s0 8 = exU b s0 0 from rfl, clock_used_to (P := exU b s0 0) (Q := exU b s0 1) rfl rfl rfl, clock_used_to (P := exU b s0 1) (Q := exU b s0 2) rfl rfl rfl, clock_used_to (P := exU b s0 2) (Q := exU b s0 3) rfl rfl rfl, clock_used_to (P := exU b s0 3) (Q := exU b s0 4) rfl rfl rfl, clock_used_to (P := exU b s0 4) (Q := exU b s0 5) rfl rfl rfl, clock_used_to (P := exU b s0 5) (Q := exU b s0 6) rfl rfl rfl, clock_used_to (P := exU b s0 6) (Q := exU b s0 7) rfl rfl rfl, clock_used_to (P := exU b s0 7) (Q := exU b s0 8) rfl rfl rfl, clock_goes (P := exU b s0 8) (s' := s1) rfl rfl rfl hs]
    rfl
  exact put_room he (hb 8) (show ¬ (8 : Nat) < 8 by decide) hr
include h1 in
theorem ex_pin (j : Nat) (hj : j < 8) : pinQ (exQ b s1 j) ((j + 1 : Nat) : Int) = (0, exQ b s1 (j + 1)) := by
  have he : errA (exQ b s1 j).s ((j + 1 : Nat) : Int) = 0 := h1 (j + 1) (by omega)
  have hk' : j = 0 ∨ j = 1 ∨ j = 2 ∨ j = 3 ∨ j = 4 ∨ j = 5 ∨ j = 6 ∨ j = 7 := by omega
  rcases hk' with rfl | rfl | rfl | rfl | rfl | rfl | rfl | rfl
  · exact pin_found he (i := 1) rfl (show (1 : Nat) < 8 by decide)
  · exact pin_found he (i := 2) rfl (show (2 : Nat) < 8 by decide)
  · exact pin_found he (i := 3) rfl (show (3 : Nat) < 8 by decide)
  · exact pin_found he (i := 4) rfl (show (4 : Nat) < 8 by decide)
  · exact pin_found he (i := 5) rfl (show (5 : Nat) < 8 by decide)
  · exact pin_found he (i := 6) rfl (show (6 : Nat) < 8 by decide)
  · exact pin_found he (i := 7) rfl (show (7 : Nat) < 8 by decide)
  · exact pin_found he (i := 0) rfl (show (0 : Nat) < 8 by decide)
include h1 in
theorem ex_pins (j : Nat) (hj : j < 8) : ((fetchQ (exQ b s1 j) ((j + 1 : Nat) : Int)).2.2.fr.getD (fetchQ (exQ b s1 j) ((j + 1 : Nat) : Int)).2.1 zeroF).pins = 0 := by
  have he : errA (exQ b s1 j).s ((j + 1 : Nat) : Int) = 0 := h1 (j + 1) (by omega)
  have hk' : j = 0 ∨ j = 1 ∨ j = 2 ∨ j = 3 ∨ j = 4 ∨ j = 5 ∨ j = 6 ∨ j = 7 := by omega
  unfold fetchQ
  rw [if_pos he]
  rcases hk' with rfl | rfl | rfl | rfl | rfl | rfl | rfl | rfl <;> rfl
include h1 in
theorem ex_get : getQ (exQ b s1 8) 9 = ([], 9, exQ b s1 8) := by
  have hr : roomQ (exQ b s1 8) = (9, 0, exQ b s1 8) := by
    have hne : ¬ emptyF (exQ b s1 8).fr < (exQ b s1 8).fr.length := show ¬ (8 : Nat) < 8 by decide
    rw [room_clock hne]
    show clockQ 16 (exQ b s1 8) = _
    have hwrap : stepH (exV b s1 7) = exV b s1 0 := by simp [stepH, exV, exL]
    rw [show exQ b s1 8 = exV b s1 1 from rfl, clock_pinned_to (P := exV b s1 1) (Q := exV b s1 2) Nat.zero_lt_one rfl, clock_pinned_to (P := exV b s1 2) (Q := exV b s1 3) Nat.zero_lt_one rfl, clock_pinned_to (P := exV b s1 3) (Q := exV b s1 4) Nat.zero_lt_one rfl, clock_pinned_to (P := exV b s1 4) (Q := exV b s1 5) Nat.zero_lt_one rfl, clock_pinned_to (P := exV b s1 5) (Q := exV b s1 6) Nat.zero_lt_one rfl, clock_pinned_to (P := exV b s1 6) (Q := exV b s1 7) Nat.zero_lt_one rfl, clock_pinned_to (P := exV b s1 7) (Q := exV b s1 0) Nat.zero_lt_one hwrap, clock_pinned_to (P := exV b s1 0) (Q := exV b s1 1) Nat.zero_lt_one rfl, clock_pinned_to (P := exV b s1 1) (Q := exV b s1 2) Nat.zero_lt_one rfl, clock_pinned_to (P := exV b s1 2) (Q := exV b s1 3) Nat.zero_lt_one rfl, clock_pinned_to (P := exV b s1 3) (Q := exV b s1 4) Nat.zero_lt_one rfl, clock_pinned_to (P := exV b s1 4) (Q := exV b s1 5) Nat.zero_lt_one rfl, clock_pinned_to (P := exV b s1 5) (Q := exV b s1 6) Nat.zero_lt_one rfl, clock_pinned_to (P := exV b s1 6) (Q := exV b s1 7) Nat.zero_lt_one rfl, clock_pinned_to (P := exV b s1 7) (Q := exV b s1 0) Nat.zero_lt_one hwrap, clock_pinned_to (P := exV b s1 0) (Q := exV b s1 1) Nat.zero_lt_one rfl]
    rfl
  have hf : fetchQ (exQ b s1 8) 9 = (9, 0, exQ b s1 8) := by
    have hne : ¬ findF (exQ b s1 8).fr 9 < (exQ b s1 8).fr.length := show ¬ (8 : Nat) < 8 by decide
    unfold fetchQ
    rw [if_pos (show errA (exQ b s1 8).s 9 = 0 from h1 9 (by omega)), if_neg hne, hr]
    rfl
  unfold getQ
  rw [hf]
  rfl
end
/-! The first page saved. -/
def wroteI (b : List UInt8) : Nat → St → St
  | 0, s => s
  | k + 1, s => wroteI b k (writeS s (7 - k) (partB b (7 - k)))
theorem save_first {b : List UInt8} (hb : b.length = 4096) : ∀ (k : Nat) (s : St), k ≤ 8 → s.F = none → 8 ≤ secs s → saveI 0 b k s = (0, wroteI b k s)
  | 0, s, _, _, _ => rfl
  | k + 1, s, hk, hF, hs => by
    have hw := write_done s (7 - k) (partB b (7 - k)) hF (by omega) (partB_len hb (by omega))
    rw [saveI, Nat.mul_zero, Nat.zero_add, hw]
    exact (if_pos rfl).trans (save_first hb k (writeS s (7 - k) (partB b (7 - k))) (by omega) hF hs)
theorem save_first8 {b : List UInt8} (hb : b.length = 4096) {s : St} (hF : s.F = none) (hs : 8 ≤ secs s) : saveP s 0 b = (0, wroteI b 8 s) := by
  unfold saveP
  rw [if_pos ⟨⟨by omega, by omega⟩, hb⟩]
  exact save_first hb 8 s (by omega) hF hs
theorem wrote_keys (b B : List UInt8) : (keysC (wroteI b 8 ⟨B, [], none⟩).C).length = 8 := rfl
theorem wrote_secs (b B : List UInt8) : secs (wroteI b 8 ⟨B, [], none⟩) = secs ⟨B, [], none⟩ := rfl
def rowP (v : UInt8) : List UInt8 := List.replicate 4096 v
theorem rowP_len (v : UInt8) : (rowP v).length = 4096 := List.length_replicate
theorem ex_all : ∃ s1, saveP (newS 96) 0 (rowP (UInt8.ofNat 0)) = (0, s1) ∧ (∀ x : Nat, x < 12 → errA (newS 96) (x : Int) = 0) ∧ (∀ x : Nat, x < 12 → errA s1 (x : Int) = 0) ∧ (keysC s1.C).length = 8 := by
  refine ⟨_, save_first8 (rowP_len _) rfl (by rw [secs_new]; omega), fun x hx => err_in ⟨by omega, by rw [secs_new]; omega⟩, fun x hx => err_in ⟨by omega, ?_⟩, wrote_keys _ _⟩
  have : secs (wroteI (rowP (UInt8.ofNat 0)) 8 (newS 96)) = 96 := (wrote_secs _ _).trans (secs_new 96)
  rw [this]
  omega
end Go.Proofs.Ytmfcckmcbmlhmaa
