/-
  octet.first by its contract. Conditions: none but that the bytes lie there.
-/
import Derived.Test.YthakkaffjnkhgaaOct2
namespace Go.Proofs.Ythakkaffjnkhgaa
open Go.RowKit
set_option maxRecDepth 100000

def FirRel (l : List UInt8) (n i : Value) : Prop :=
  ∃ k acc : Nat, k ≤ l.length ∧ k ≤ 9 ∧ i = .int .i64 k ∧ n = .int .u64 acc ∧ acc < 2 ^ (7 * k) ∧ firstF k acc (l.drop k) = firstB l

set_option maxRecDepth 100000 in
set_option maxHeartbeats 1000000 in
theorem first_any (w : World) (v : Value) (l : List UInt8) (hv : Byt w v l) :
    Calls Try.prog 49 #[v] w fun e w' => e = .returned (.tuple #[.int .u64 (firstB l).1, .int .i64 (firstB l).2.1, .int .i64 (firstB l).2.2]) ∧ w = w' := by
  obtain ⟨A, c, rfl, h1, h2, h3⟩ := hv
  unfold maxLen at h2
  generalize hfin : firstB l = fin
  have HF := Lib.hid hfin
  clear hfin
  have H3 := Lib.hid h3
  clear h3
  go_enter Try.func49, Try.ntmps49
  go_wp2
  go_loop [2, 11] (fun n i => FirRel l n i) (fun _ i => l.length - (intOf i).toNat)
  case atStart => exact ⟨0, 0, by omega, by omega, rfl, rfl, by simp, rfl⟩
  case round =>
    obtain ⟨k, acc, hk, hk9, rfl, rfl, hacc, hrec⟩ := hrel
    have HA := Lib.hid hacc
    have HR := Lib.hid hrec
    clear hacc hrec
    by_cases hlt : k < l.length
    · obtain ⟨b, off, rfl, hb, hc⟩ : ∃ b off, A = some ⟨b, off, none⟩ ∧ b < w.heap.size ∧ ∀ j (hj : j < l.length), w.cell? ⟨b, off + j, none⟩ = some (.int .u8 (l[j].toNat : Int)) := by
        rcases H3.out with h | h
        · subst h; simp at hlt
        · exact h
      have hcell := hc k hlt
      have hx : l[k].toNat < 256 := l[k].toNat_lt
      obtain ⟨x, hxx⟩ : ∃ x, x = l[k].toNat := ⟨_, rfl⟩
      rw [← hxx] at hcell hx
      have HX := Lib.hid hxx
      clear hxx hc
      by_cases h9 : k = 9
      · subst h9
        by_cases hx1 : 1 < x
        · have hfin := HF.out
          rw [← HR.out, first_bad 9 acc x l hlt HX.out (by omega)] at hfin
          subst hfin
          go_wp2
          all_goals (go_ret3; exact ⟨rfl, rfl⟩)
        · by_cases hx0 : x = 0
          · have hfin := HF.out
            rw [← HR.out, first_bad 9 acc x l hlt HX.out (by omega)] at hfin
            subst hfin
            subst hx0
            go_wp2
            all_goals (go_ret3; exact ⟨rfl, rfl⟩)
          · have hfin := HF.out
            rw [← HR.out, first_end 9 acc x l hlt HX.out (by omega) (by omega)] at hfin
            have hst := step_or9 acc x (by omega) HA.out
            subst hfin
            have HS := Lib.hid hst
            clear hst
            have hx0' : ((x : Int) == 0) = false := by simp; omega
            go_wp2
            go_ret3
            exact ⟨by rw [HS.out]; rfl, rfl⟩
      · have h9' : ((k : Int) == 9) = false := by simp; omega
        by_cases hbad : 0 < k ∧ x = 0
        · obtain ⟨h0, rfl⟩ := hbad
          have hfin := HF.out
          rw [← HR.out, first_bad k acc 0 l hlt HX.out (by omega)] at hfin
          subst hfin
          go_wp2
          all_goals (go_ret3; exact ⟨rfl, rfl⟩)
        · have hst := step_or k acc x hx HA.out (by omega) (by omega)
          have HS := Lib.hid hst.1
          have HS2 := Lib.hid hst.2
          clear hst
          by_cases hend : x < 128
          · have hfin := HF.out
            rw [← HR.out, first_end k acc x l hlt HX.out (by omega) hend] at hfin
            subst hfin
            by_cases h0 : 0 < k
            · have hx0' : ((x : Int) == 0) = false := by simp; omega
              clear hbad
              go_wp2
              go_ret3
              exact ⟨by rw [HS.out]; rfl, rfl⟩
            · go_wp2
              go_ret3
              exact ⟨by rw [HS.out]; rfl, rfl⟩
          · have hnx := first_next k acc x l hlt HX.out (by omega) hend
            rw [HR.out] at hnx
            have HNX := Lib.hid hnx
            clear hnx
            by_cases h0 : 0 < k
            · have hx0' : ((x : Int) == 0) = false := by simp; omega
              clear hbad
              go_wp2
              go_round
              case rel => exact ⟨k + 1, _, by omega, by omega, by go_num, by rw [HS.out], step_lt k acc x HA.out, HNX.out.symm⟩
              case measure => simp [intOf]; omega
            · go_wp2
              go_round
              case rel => exact ⟨k + 1, _, by omega, by omega, by go_num, by rw [HS.out], step_lt k acc x HA.out, HNX.out.symm⟩
              case measure => simp [intOf]; omega
    · have hfin := HF.out
      rw [← HR.out, first_none k acc l (by omega)] at hfin
      subst hfin
      go_wp2
      go_ret3
      exact ⟨rfl, rfl⟩
end Go.Proofs.Ythakkaffjnkhgaa
