/-
  The statement OctetBounds: a reader never goes past the end, and stays where it failed, whatever bytes and calls. Conditions: none.
-/
import Derived.Test.YtledbkohbjefhaaLives
import Derived.Test.YtledbkohbjefhaaRef1
import Derived.Test.YtledbkohbjefhaaPairs
namespace Go.Proofs.Ytledbkohbjefhaa.octetBounds
open Go.ChangeShapes Go.WideShapes Go.ChangeAt Go.RowKit
set_option linter.unusedVariables false

theorem tmod6 (k : Int) : (k.tmod 6 < 0 → wrap64 (k.tmod 6 + 6) = k % 6) ∧ (¬ k.tmod 6 < 0 → k.tmod 6 = k % 6) := by
  have h := Int.tmod_eq_emod (a := k) (b := 6)
  have h2 := Int.emod_nonneg k (show (6 : Int) ≠ 0 by omega)
  have h3 := Int.emod_lt_of_pos k (show (0 : Int) < 6 by omega)
  have hw : ∀ z : Int, 0 ≤ z → z < 6 → wrap64 z = z := fun z h1 h2 => by unfold wrap64; omega
  by_cases hc : 0 ≤ k ∨ (6 : Int) ∣ k
  · rw [if_pos hc] at h
    exact ⟨fun hh => by omega, fun _ => by omega⟩
  · rw [if_neg hc] at h
    have e6 : (Int.natAbs 6 : Int) = 6 := rfl
    rw [e6] at h
    refine ⟨fun hh => ?_, fun hh => by omega⟩
    rw [h, hw _ (by omega) (by omega)]
    omega

theorem pick_any (k : Int) (w : World) :
    Calls Try.prog 25 #[.int .i64 k, .int .i64 6] w fun e w' => e = .returned (.int .i64 (k % 6)) ∧ w = w' := by
  obtain ⟨h1, h2⟩ := tmod6 k
  by_cases h : k.tmod 6 < 0
  · have H := Lib.hid (h1 h)
    clear h1 h2
    go_enter Try.func25, Try.ntmps25
    go_wp2
    go_ret
    exact ⟨by rw [← H.out]; rfl, rfl⟩
  · have H := Lib.hid (h2 h)
    clear h1 h2
    go_enter Try.func25, Try.ntmps25
    go_wp2
    go_ret
    exact ⟨by rw [← H.out]; rfl, rfl⟩

theorem upto_facts (l : List UInt8) (e most : Nat) : (uptoB l e most).2.1.length ≤ l.length ∧ (e ≠ 0 → uptoB l e most = (0, l, e)) := by
  unfold uptoB
  refine ⟨?_, fun h => by rw [if_pos h]⟩
  split
  · exact Nat.le_refl _
  · split
    · exact Nat.le_refl _
    · split <;> (simp only [List.length_drop]; omega)
theorem take_facts (l : List UInt8) (a n : Nat) : (takeB l a n).1.length ≤ l.length ∧ (takeB l a n).2.1.length ≤ l.length := by
  unfold takeB
  split
  · simp only [List.length_take, List.length_drop]; omega
  · simp
theorem block_facts (l : List UInt8) (e : Nat) : (blockB l e).1.length ≤ l.length ∧ (blockB l e).2.1.length ≤ l.length ∧ (e ≠ 0 → blockB l e = ([], l, e)) := by
  unfold blockB
  refine ⟨?_, ?_, fun h => by rw [if_pos h]⟩
  all_goals
    split
    · simp
    · split
      · simp
      · exact (by first | exact (take_facts _ _ _).1 | exact (take_facts _ _ _).2)
theorem fixed_facts (l : List UInt8) (e n : Nat) : (fixedB l e n).1.length ≤ l.length ∧ (fixedB l e n).2.1.length ≤ l.length ∧ (e ≠ 0 → fixedB l e n = ([], l, e)) := by
  unfold fixedB
  refine ⟨?_, ?_, fun h => by rw [if_pos h]⟩
  all_goals
    split
    · simp
    · exact (by first | exact (take_facts _ _ _).1 | exact (take_facts _ _ _).2)
theorem word_facts (l : List UInt8) (e : Nat) (k : Int) : (wordR l e k).2.1.length ≤ l.length ∧ (e ≠ 0 → wordR l e k = (0, l, e)) := by
  unfold wordR
  refine ⟨?_, fun h => by rw [if_pos h]⟩
  split
  · exact Nat.le_refl _
  · split
    · exact (take_facts _ _ _).2
    · exact Nat.le_refl _
def endB (l : List UInt8) (e : Nat) : Nat := if e ≠ 0 then e else if 0 < l.length then 4 else 0
theorem end_any (w : World) (g e : Nat) (l : List UInt8) (hr : Rdr w g l e) :
    Calls Try.prog 12 #[.pointer (some ⟨g, 0, none⟩)] w (Told w g .i64 (endB l e) l (endB l e)) := by
  unfold endB
  by_cases he : e = 0
  · subst he
    rw [if_neg (by omega)]
    by_cases hl : 0 < l.length
    · rw [if_pos hl]; exact end_bad w g l hr hl
    · rw [if_neg hl]
      have : l = [] := List.eq_nil_of_length_eq_zero (by omega)
      subst this
      exact end_ok w g hr
  · rw [if_pos he]; exact end_err w g e l hr he
theorem u64nat (z : Int) : ∃ m : Nat, IntKind.u64.wrap z = (m : Int) := by
  rw [IntKind.wrap_u64]
  exact ⟨(z % 18446744073709551616).toNat, by omega⟩

def BRel (w : World) (g nb nl : Nat) (i : Value) (wr : World) : Prop :=
  ∃ (k : Nat) (lr : List UInt8) (e : Nat), k ≤ nl ∧ i = .int .i64 (k : Int) ∧ Rdr wr g lr e ∧ lr.length ≤ nb ∧ Below w.heap.size w wr

set_option maxRecDepth 100000 in
set_option maxHeartbeats 16000000 in
theorem walk_small (w : World) (b : Value) (l : List UInt8) (v : Value) (nl : Nat) (f : Nat → Int × Int) (hb : Byt w b l) (hv : Pairs w v nl f) (hl : l.length ≤ 3000) (hl2 : nl ≤ 60) :
    Calls Try.prog 6 #[b, v] w fun e w' => e = .returned (.bool true) ∧ Below w.heap.size w w' := by
  have HB := Lib.hid hb
  obtain ⟨A0, n0, c0, rfl, N0, _, _⟩ := hb.form
  obtain ⟨A1, c1, rfl, hc1, hc2, hcells⟩ := hv
  have h0 : ¬ (3000 : Int) < (n0 : Int) := by have := N0.out; omega
  have h1 : ¬ (60 : Int) < (nl : Int) := by omega
  have HCE := Lib.hid hcells
  clear hb hcells
  go_enter Try.func6, Try.ntmps6
  go_wp2_with fail
  refine (lives_any _).mono ?_
  rintro e w1 ⟨rfl, hb1⟩
  have HB1 := Lib.hid (HB.out.below hb1)
  have hw1 := hb1
  clear hb1
  go_wp2_with fail
  refine (kitown_any _ _ l HB1.out (by omega)).mono ?_
  rintro e w2 ⟨v2, rfl, ho2, hb2⟩
  have hw2 := hw1.trans (hb2.mono hw1.size)
  have HV2 := Lib.hid ho2.byt
  clear ho2 hb2
  go_wp2_with fail
  refine (new_any _ _ l HV2.out (by omega)).mono ?_
  rintro e w3 ⟨g, rfl, hg3, hr3, hb3⟩
  have hw3 := hw2.trans (hb3.mono hw2.size)
  have HR3 := Lib.hid hr3
  have hgw : w.heap.size ≤ g := by have := hw2.size; omega
  clear hr3 hb3
  go_wp2_with fail
  go_loopw [6] (fun i wr => BRel w g l.length nl i wr) (fun i _ => nl - (intOf i).toNat)
  case atStart => exact ⟨0, l, 0, by omega, rfl, HR3.out, Nat.le_refl _, hw3⟩
  case round =>
    obtain ⟨k, lr, e, hk, rfl, hr, hlr, hwr⟩ := hrel
    have HR := Lib.hid hr
    have hn0 : (l.length : Int) = (n0 : Int) := by rw [N0.out]
    have HN0 := Lib.hid hn0
    clear hr hn0
    by_cases hlt : k < nl
    · obtain ⟨bb, off, rfl, hbb, hcell⟩ : ∃ b off, A1 = some ⟨b, off, none⟩ ∧ b < w.heap.size ∧ ∀ j, j < nl → w.cell? ⟨b, off + j * 2, none⟩ = some (.int .i64 (f j).1) ∧ w.cell? ⟨b, off + j * 2 + 1, none⟩ = some (.int .i64 (f j).2) ∧ (-9223372036854775808 ≤ (f j).2 ∧ (f j).2 ≤ 9223372036854775807) := by
        rcases HCE.out with h | h
        · omega
        · exact h
      obtain ⟨hc1', hc2', hfb⟩ := hcell k hlt
      have hca := (hwr.cell (p := ⟨bb, off + k * 2, none⟩) hbb).trans hc1'
      have hcb := (hwr.cell (p := ⟨bb, off + k * 2 + 1, none⟩) hbb).trans hc2'
      clear hcell hc1' hc2'
      go_wp2_with fail
      refine (err_is _ g e lr HR.out).mono ?_
      rintro x wz ⟨rfl, rfl⟩
      go_wp2_with fail
      refine (left_is _ g e lr HR.out).mono ?_
      rintro x wz ⟨rfl, rfl⟩
      go_wp2_with fail
      refine (pick_any _ _).mono ?_
      rintro x wz ⟨rfl, rfl⟩
      have hp0 := Int.emod_nonneg (f k).1 (show (6 : Int) ≠ 0 by omega)
      have hp6 := Int.emod_lt_of_pos (f k).1 (show (0 : Int) < 6 by omega)
      generalize (f k).1 % 6 = p at *
      rcases (show p = 0 ∨ p = 1 ∨ p = 2 ∨ p = 3 ∨ p = 4 ∨ p = 5 by omega) with rfl | rfl | rfl | rfl | rfl | rfl
      · have hfx := upto_facts lr e 18446744073709551615
        have C := Lib.hid (number_is _ g e lr HR.out)
        generalize uptoB lr e 18446744073709551615 = u at *
        obtain ⟨nx, lx, ex⟩ := u
        simp only at hfx C
        obtain ⟨hlx, hst0⟩ := hfx
        have hst : e ≠ 0 → lx = lr ∧ ex = e ∧ nx = 0 := fun h => by have := hst0 h; simp at this; exact ⟨this.2.1, this.2.2, this.1⟩
        clear hst0
        go_wp2_with fail
        refine (C.out).mono ?_
        rintro x wx ⟨rfl, hrx, hgx⟩
        have hwx : Below w.heap.size w wx := hwr.grown hgx hwr.size (by rintro j ⟨rfl⟩; exact hgw)
        have HRX := Lib.hid hrx
        clear hrx hgx
        by_cases he : e = 0
        · subst he
          have q1 : ¬ (lr.length : Int) < (lx.length : Int) := by omega
          have q3 : ¬ ((n0 : Int) + 1 < (nx : Int) % 2) := by have := HN0.out; omega
          have q4 : (n0 : Int) ≤ 3000 := by omega
          clear hst
          go_wp2_with fail
          refine (left_is _ g ex lx HRX.out).mono ?_
          rintro x wz ⟨rfl, rfl⟩
          go_wp2_with fail
          refine (left_is _ g ex lx HRX.out).mono ?_
          rintro x wz ⟨rfl, rfl⟩
          go_wp2_with fail
          go_roundw
          case rel => exact ⟨k + 1, lx, ex, by omega, by go_num, HRX.out, by omega, hwx⟩
          case measure => simp [intOf]; omega
        · obtain ⟨rfl, rfl, hz⟩ := hst he
          have he' : ((ex : Int) != 0) = true := by simp; omega
          have q4 : (n0 : Int) ≤ 3000 := by omega
          subst hz
          clear he
          go_wp2_with fail
          refine (left_is _ g ex lx HRX.out).mono ?_
          rintro x wz ⟨rfl, rfl⟩
          go_wp2_with fail
          refine (left_is _ g ex lx HRX.out).mono ?_
          rintro x wz ⟨rfl, rfl⟩
          go_wp2_with fail
          refine (err_is _ g ex lx HRX.out).mono ?_
          rintro x wz ⟨rfl, rfl⟩
          go_wp2_with fail
          refine (left_is _ g ex lx HRX.out).mono ?_
          rintro x wz ⟨rfl, rfl⟩
          go_wp2_with fail
          go_roundw
          case rel => exact ⟨k + 1, lx, ex, by omega, by go_num, HRX.out, hlr, hwx⟩
          case measure => simp [intOf]; omega
      · obtain ⟨mo, hmo⟩ := u64nat (f k).2
        have HMO := Lib.hid hmo
        clear hmo
        have hfx := upto_facts lr e mo
        have C := Lib.hid (upto_is _ g e mo lr HR.out)
        generalize uptoB lr e mo = u at *
        obtain ⟨nx, lx, ex⟩ := u
        simp only at hfx C
        obtain ⟨hlx, hst0⟩ := hfx
        have hst : e ≠ 0 → lx = lr ∧ ex = e ∧ nx = 0 := fun h => by have := hst0 h; simp at this; exact ⟨this.2.1, this.2.2, this.1⟩
        clear hst0
        go_wp2_with fail
        rw [HMO.out]
        refine (C.out).mono ?_
        rintro x wx ⟨rfl, hrx, hgx⟩
        have hwx : Below w.heap.size w wx := hwr.grown hgx hwr.size (by rintro j ⟨rfl⟩; exact hgw)
        have HRX := Lib.hid hrx
        clear hrx hgx
        by_cases he : e = 0
        · subst he
          have q1 : ¬ (lr.length : Int) < (lx.length : Int) := by omega
          have q3 : ¬ ((n0 : Int) + 1 < (nx : Int) % 2) := by have := HN0.out; omega
          have q4 : (n0 : Int) ≤ 3000 := by omega
          clear hst
          go_wp2_with fail
          refine (left_is _ g ex lx HRX.out).mono ?_
          rintro x wz ⟨rfl, rfl⟩
          go_wp2_with fail
          refine (left_is _ g ex lx HRX.out).mono ?_
          rintro x wz ⟨rfl, rfl⟩
          go_wp2_with fail
          go_roundw
          case rel => exact ⟨k + 1, lx, ex, by omega, by go_num, HRX.out, by omega, hwx⟩
          case measure => simp [intOf]; omega
        · obtain ⟨rfl, rfl, hz⟩ := hst he
          have he' : ((ex : Int) != 0) = true := by simp; omega
          have q4 : (n0 : Int) ≤ 3000 := by omega
          subst hz
          clear he
          go_wp2_with fail
          refine (left_is _ g ex lx HRX.out).mono ?_
          rintro x wz ⟨rfl, rfl⟩
          go_wp2_with fail
          refine (left_is _ g ex lx HRX.out).mono ?_
          rintro x wz ⟨rfl, rfl⟩
          go_wp2_with fail
          refine (err_is _ g ex lx HRX.out).mono ?_
          rintro x wz ⟨rfl, rfl⟩
          go_wp2_with fail
          refine (left_is _ g ex lx HRX.out).mono ?_
          rintro x wz ⟨rfl, rfl⟩
          go_wp2_with fail
          go_roundw
          case rel => exact ⟨k + 1, lx, ex, by omega, by go_num, HRX.out, hlr, hwx⟩
          case measure => simp [intOf]; omega
      · have hfx := word_facts lr e (f k).2
        have C := Lib.hid (rword_is _ g e lr (f k).2 HR.out (by omega))
        generalize wordR lr e (f k).2 = u at *
        obtain ⟨nx, lx, ex⟩ := u
        simp only at hfx C
        obtain ⟨hlx, hst0⟩ := hfx
        have hst : e ≠ 0 → lx = lr ∧ ex = e ∧ nx = 0 := fun h => by have := hst0 h; simp at this; exact ⟨this.2.1, this.2.2, this.1⟩
        clear hst0
        go_wp2_with fail
        refine (C.out).mono ?_
        rintro x wx ⟨rfl, hrx, hgx⟩
        have hwx : Below w.heap.size w wx := hwr.grown hgx hwr.size (by rintro j ⟨rfl⟩; exact hgw)
        have HRX := Lib.hid hrx
        clear hrx hgx
        by_cases he : e = 0
        · subst he
          have q1 : ¬ (lr.length : Int) < (lx.length : Int) := by omega
          have q3 : ¬ ((n0 : Int) + 1 < (nx : Int) % 2) := by have := HN0.out; omega
          have q4 : (n0 : Int) ≤ 3000 := by omega
          clear hst
          go_wp2_with fail
          refine (left_is _ g ex lx HRX.out).mono ?_
          rintro x wz ⟨rfl, rfl⟩
          go_wp2_with fail
          refine (left_is _ g ex lx HRX.out).mono ?_
          rintro x wz ⟨rfl, rfl⟩
          go_wp2_with fail
          go_roundw
          case rel => exact ⟨k + 1, lx, ex, by omega, by go_num, HRX.out, by omega, hwx⟩
          case measure => simp [intOf]; omega
        · obtain ⟨rfl, rfl, hz⟩ := hst he
          have he' : ((ex : Int) != 0) = true := by simp; omega
          have q4 : (n0 : Int) ≤ 3000 := by omega
          subst hz
          clear he
          go_wp2_with fail
          refine (left_is _ g ex lx HRX.out).mono ?_
          rintro x wz ⟨rfl, rfl⟩
          go_wp2_with fail
          refine (left_is _ g ex lx HRX.out).mono ?_
          rintro x wz ⟨rfl, rfl⟩
          go_wp2_with fail
          refine (err_is _ g ex lx HRX.out).mono ?_
          rintro x wz ⟨rfl, rfl⟩
          go_wp2_with fail
          refine (left_is _ g ex lx HRX.out).mono ?_
          rintro x wz ⟨rfl, rfl⟩
          go_wp2_with fail
          go_roundw
          case rel => exact ⟨k + 1, lx, ex, by omega, by go_num, HRX.out, hlr, hwx⟩
          case measure => simp [intOf]; omega
      · have hfx := block_facts lr e
        have C := Lib.hid (rblock_is _ g e lr HR.out (by omega))
        generalize blockB lr e = u at *
        obtain ⟨bx, lx, ex⟩ := u
        simp only at hfx C
        obtain ⟨hbx, hlx, hst0⟩ := hfx
        have hst : e ≠ 0 → lx = lr ∧ ex = e ∧ bx.length = 0 := fun h => by have := hst0 h; simp at this; simp [this]
        clear hst0
        go_wp2_with fail
        refine (C.out).mono ?_
        rintro x wx ⟨vx, rfl, hvx, hrx, hgx⟩
        obtain ⟨Ax, nx, cx, rfl, Nx, _, _⟩ := hvx.form
        have hnx := Nx.out
        rw [← hnx] at hbx hst
        clear hvx hnx
        have hwx : Below w.heap.size w wx := hwr.grown hgx hwr.size (by rintro j ⟨rfl⟩; exact hgw)
        have HRX := Lib.hid hrx
        clear hrx hgx
        by_cases he : e = 0
        · subst he
          have q1 : ¬ (lr.length : Int) < (lx.length : Int) := by omega
          have q3 : ¬ ((n0 : Int) + 1 < (nx : Int)) := by have := HN0.out; omega
          have q4 : (n0 : Int) ≤ 3000 := by omega
          clear hst
          go_wp2_with fail
          refine (left_is _ g ex lx HRX.out).mono ?_
          rintro x wz ⟨rfl, rfl⟩
          go_wp2_with fail
          refine (left_is _ g ex lx HRX.out).mono ?_
          rintro x wz ⟨rfl, rfl⟩
          go_wp2_with fail
          go_roundw
          case rel => exact ⟨k + 1, lx, ex, by omega, by go_num, HRX.out, by omega, hwx⟩
          case measure => simp [intOf]; omega
        · obtain ⟨rfl, rfl, hz⟩ := hst he
          have he' : ((ex : Int) != 0) = true := by simp; omega
          have q4 : (n0 : Int) ≤ 3000 := by omega
          subst hz
          clear he
          go_wp2_with fail
          refine (left_is _ g ex lx HRX.out).mono ?_
          rintro x wz ⟨rfl, rfl⟩
          go_wp2_with fail
          refine (left_is _ g ex lx HRX.out).mono ?_
          rintro x wz ⟨rfl, rfl⟩
          go_wp2_with fail
          refine (err_is _ g ex lx HRX.out).mono ?_
          rintro x wz ⟨rfl, rfl⟩
          go_wp2_with fail
          refine (left_is _ g ex lx HRX.out).mono ?_
          rintro x wz ⟨rfl, rfl⟩
          go_wp2_with fail
          go_roundw
          case rel => exact ⟨k + 1, lx, ex, by omega, by go_num, HRX.out, hlr, hwx⟩
          case measure => simp [intOf]; omega
      · have hfx := fixed_facts lr e (f k).2.toNat
        have C := Lib.hid (fixed_is _ g e lr (f k).2 HR.out (by omega) hfb.2)
        generalize fixedB lr e (f k).2.toNat = u at *
        obtain ⟨bx, lx, ex⟩ := u
        simp only at hfx C
        obtain ⟨hbx, hlx, hst0⟩ := hfx
        have hst : e ≠ 0 → lx = lr ∧ ex = e ∧ bx.length = 0 := fun h => by have := hst0 h; simp at this; simp [this]
        clear hst0
        go_wp2_with fail
        refine (C.out).mono ?_
        rintro x wx ⟨vx, rfl, hvx, hrx, hgx⟩
        obtain ⟨Ax, nx, cx, rfl, Nx, _, _⟩ := hvx.form
        have hnx := Nx.out
        rw [← hnx] at hbx hst
        clear hvx hnx
        have hwx : Below w.heap.size w wx := hwr.grown hgx hwr.size (by rintro j ⟨rfl⟩; exact hgw)
        have HRX := Lib.hid hrx
        clear hrx hgx
        by_cases he : e = 0
        · subst he
          have q1 : ¬ (lr.length : Int) < (lx.length : Int) := by omega
          have q3 : ¬ ((n0 : Int) + 1 < (nx : Int)) := by have := HN0.out; omega
          have q4 : (n0 : Int) ≤ 3000 := by omega
          clear hst
          go_wp2_with fail
          refine (left_is _ g ex lx HRX.out).mono ?_
          rintro x wz ⟨rfl, rfl⟩
          go_wp2_with fail
          refine (left_is _ g ex lx HRX.out).mono ?_
          rintro x wz ⟨rfl, rfl⟩
          go_wp2_with fail
          go_roundw
          case rel => exact ⟨k + 1, lx, ex, by omega, by go_num, HRX.out, by omega, hwx⟩
          case measure => simp [intOf]; omega
        · obtain ⟨rfl, rfl, hz⟩ := hst he
          have he' : ((ex : Int) != 0) = true := by simp; omega
          have q4 : (n0 : Int) ≤ 3000 := by omega
          subst hz
          clear he
          go_wp2_with fail
          refine (left_is _ g ex lx HRX.out).mono ?_
          rintro x wz ⟨rfl, rfl⟩
          go_wp2_with fail
          refine (left_is _ g ex lx HRX.out).mono ?_
          rintro x wz ⟨rfl, rfl⟩
          go_wp2_with fail
          refine (err_is _ g ex lx HRX.out).mono ?_
          rintro x wz ⟨rfl, rfl⟩
          go_wp2_with fail
          refine (left_is _ g ex lx HRX.out).mono ?_
          rintro x wz ⟨rfl, rfl⟩
          go_wp2_with fail
          go_roundw
          case rel => exact ⟨k + 1, lx, ex, by omega, by go_num, HRX.out, hlr, hwx⟩
          case measure => simp [intOf]; omega
      · have C := Lib.hid (end_any _ g e lr HR.out)
        have hst : e ≠ 0 → lr = lr ∧ endB lr e = e ∧ (0 : Nat) = 0 := fun h => ⟨rfl, by unfold endB; rw [if_pos h], rfl⟩
        generalize endB lr e = ex at *
        have hlx : lr.length ≤ lr.length := Nat.le_refl _
        go_wp2_with fail
        refine (C.out).mono ?_
        rintro x wx ⟨rfl, hrx, hgx⟩
        have hwx : Below w.heap.size w wx := hwr.grown hgx hwr.size (by rintro j ⟨rfl⟩; exact hgw)
        have HRX := Lib.hid hrx
        clear hrx hgx
        by_cases he : e = 0
        · subst he
          have q1 : ¬ (lr.length : Int) < (lr.length : Int) := by omega
          have q3 : ¬ ((n0 : Int) + 1 < (0 : Int)) := by have := HN0.out; omega
          have q4 : (n0 : Int) ≤ 3000 := by omega
          clear hst
          go_wp2_with fail
          refine (left_is _ g ex lr HRX.out).mono ?_
          rintro x wz ⟨rfl, rfl⟩
          go_wp2_with fail
          refine (left_is _ g ex lr HRX.out).mono ?_
          rintro x wz ⟨rfl, rfl⟩
          go_wp2_with fail
          go_roundw
          case rel => exact ⟨k + 1, lr, ex, by omega, by go_num, HRX.out, by omega, hwx⟩
          case measure => simp [intOf]; omega
        · obtain ⟨_, rfl, hz⟩ := hst he
          have he' : ((ex : Int) != 0) = true := by simp; omega
          have q4 : (n0 : Int) ≤ 3000 := by omega
          clear hz
          clear he
          go_wp2_with fail
          refine (left_is _ g ex lr HRX.out).mono ?_
          rintro x wz ⟨rfl, rfl⟩
          go_wp2_with fail
          refine (left_is _ g ex lr HRX.out).mono ?_
          rintro x wz ⟨rfl, rfl⟩
          go_wp2_with fail
          refine (err_is _ g ex lr HRX.out).mono ?_
          rintro x wz ⟨rfl, rfl⟩
          go_wp2_with fail
          refine (left_is _ g ex lr HRX.out).mono ?_
          rintro x wz ⟨rfl, rfl⟩
          go_wp2_with fail
          go_roundw
          case rel => exact ⟨k + 1, lr, ex, by omega, by go_num, HRX.out, hlr, hwx⟩
          case measure => simp [intOf]; omega
    · go_wp2_with fail
      go_ret
      exact ⟨rfl, hwr⟩

set_option maxHeartbeats 1000000 in
theorem walk_big (w : World) (b : Value) (l : List UInt8) (v : Value) (nl : Nat) (f : Nat → Int × Int) (hb : Byt w b l) (hv : Pairs w v nl f) (hbig : 3000 < l.length ∨ 60 < nl) :
    Calls Try.prog 6 #[b, v] w fun e w' => e = .returned (.bool true) ∧ Below w.heap.size w w' := by
  obtain ⟨A0, n0, c0, rfl, N0, _, _⟩ := hb.form
  obtain ⟨A1, c1, rfl, hc1, hc2, hcells⟩ := hv
  clear hb hcells
  by_cases h : (3000 : Int) < (n0 : Int)
  · clear hbig
    go_enter Try.func6, Try.ntmps6
    go_wp2_with fail
    refine (lives_any _).mono ?_
    rintro e w1 ⟨rfl, hb1⟩
    go_wp2_with fail
    go_ret
    exact ⟨rfl, hb1⟩
  · have h1 : (60 : Int) < (nl : Int) := by have := N0.out; omega
    clear hbig
    go_enter Try.func6, Try.ntmps6
    go_wp2_with fail
    refine (lives_any _).mono ?_
    rintro e w1 ⟨rfl, hb1⟩
    go_wp2_with fail
    go_ret
    exact ⟨rfl, hb1⟩

theorem walk (w : World) (b : Value) (l : List UInt8) (v : Value) (nl : Nat) (f : Nat → Int × Int) (hb : Byt w b l) (hv : Pairs w v nl f) :
    Calls Try.prog 6 #[b, v] w fun e w' => e = .returned (.bool true) ∧ Below w.heap.size w w' := by
  by_cases h : 3000 < l.length ∨ 60 < nl
  · exact walk_big w b l v nl f hb hv h
  · exact walk_small w b l v nl f hb hv (by omega) (by omega)

set_option maxRecDepth 100000 in
theorem lifted (os : Os) (started : os.Started) (H : Type) (enc : TypeId × Value → H) :
    ReturnsInHanded {} Try.checked os 6 .any (Rows.octetBoundsSpec.pre6 enc Try.prog Try.f6 Rows.octetBoundsRow.domain false) (Rows.octetBoundsSpec.post enc Try.prog Try.f6 false true false false) := by
  refine returnsInHanded_of_change (C := Try.checked) ownKnobs started (by kernel_rfl) Try.func6
    (ChangeSpec.witness6 (enc := enc) (C := Try.checked) false ⟨#[], #[.slice none 0 0, .slice none 0 0], []⟩ 8 (by kernel_rfl) (by kernel_rfl) (by kernel_rfl) (by kernel_rfl)) ?_
  intro W base args ds gs before hval0 hW hcnd _
  have hval : ∀ (j : Nat) t v, Try.f6.params[j]? = some t → args[j]? = some v → Value.okWide Try.prog W .any base t v := hval0
  have hW' := hW
  obtain ⟨p, q, hA0, hV, rfl, hfz, hnd⟩ := hW
  have hA : DataW.TrodAll enc Try.prog W 0 (fun _ => true) true Try.f6.params.toList args.toList ds p := hA0
  rw [Try.params6] at hA hval
  obtain ⟨v0, vs0, d0, ds0, p0, q0, hargs, rfl, rfl, h0, r0⟩ := trodAll_cons hA
  obtain ⟨v1, vs1, d1, ds1, p1, q1, rfl, rfl, rfl, h1, r1⟩ := trodAll_cons r0
  obtain ⟨rfl, rfl, rfl⟩ := trodAll_nil r1
  obtain rfl : args = #[v0, v1] := by cases args; simp_all
  obtain ⟨rfl, rfl⟩ := trodVars_none hV
  have k0 := h0
  have lt0 : ∀ x ∈ p0, x.block < W.heap.size := by obtain ⟨m, hm⟩ := k0; exact DataW.trod_lt m _ _ _ hm
  obtain ⟨l0, b0⟩ := open_bytes (hval 0 24 v0 rfl rfl) h0
  have k1 := h1
  have lt1 : ∀ x ∈ p1, x.block < W.heap.size := by obtain ⟨m, hm⟩ := k1; exact DataW.trod_lt m _ _ _ hm
  obtain ⟨l1, f1, b1⟩ := open_pairs Try.underlying41 Try.underlying44 (by kernel_rfl) ⟨rfl, rfl⟩ ⟨rfl, rfl⟩ (by kernel_rfl) (hval 1 41 v1 rfl rfl) h1
  clear hA0 hval0
  refine (walk W v0 l0 v1 l1 f1 b0 b1).mono fun e W' ⟨he, bel⟩ => ?_
  subst he
  exact ⟨_, rfl, _, _, _, [], _, [], hW', trodAll_mk1 (shut_bool Try.underlying4 _), (trodAll_cons_mk (Below.trod laidOuts (by kernel_rfl) (of_decide_eq_true (by kernel_rfl)) k0 bel lt0) (trodAll_cons_mk (Below.trod laidOuts (by kernel_rfl) (of_decide_eq_true (by kernel_rfl)) k1 bel lt1) trodAll_mk0)), rfl, bel.frame _, fun h => by cases h⟩

theorem over : Rows.octetBoundsRow.holds Try.pinned (OpenSpec.ofChange Rows.octetBoundsSpec) :=
  OpenClaim.holds_of_wide 6 Try.f6 rfl rfl rfl rfl rfl rfl rfl ⟨rfl, rfl, rfl, rfl, rfl⟩ rfl rfl rfl rfl rfl (by kernel_rfl) Try.func6 (by kernel_rfl)
    (of_decide_eq_true (by kernel_rfl)) (by unfold Func.isWrapper; first | (rw [if_pos (by decide +kernel)]; kernel_rfl) | (rw [if_neg (by decide +kernel)]; exact ⟨rfl, rfl⟩))
    (fun os started H enc _ => lifted os started H enc)

theorem proved : Rows.OctetBoundsSaid := over
#print axioms proved
end Go.Proofs.Ytledbkohbjefhaa.octetBounds
