/-
  A reader's Word by its contract. Conditions: the bytes are fewer than 2^46.
-/
import Derived.Test.YtncjobeahpjnpaaRead4
namespace Go.Proofs.Ytncjobeahpjnpaa
open Go.RowKit
set_option maxRecDepth 100000

def RWRel (m : List UInt8) (n i : Value) : Prop :=
  ∃ k : Nat, k ≤ m.length ∧ i = .int .i64 (k : Int) ∧ n = .int .u64 (wordN (m.take k) : Int)

set_option maxRecDepth 100000 in
set_option maxHeartbeats 1000000 in
theorem rword_is (w : World) (g e : Nat) (l : List UInt8) (k : Int) (hr : Rdr w g l e) (hlen : l.length ≤ 70368744177664) :
    Calls Try.prog 44 #[.pointer (some ⟨g, 0, none⟩), .int .i64 k] w (Told w g .u64 (wordR l e k).1 (wordR l e k).2.1 (wordR l e k).2.2) := by
  have HR := Lib.hid hr
  unfold wordR
  by_cases he : e = 0
  · subst he
    rw [if_neg (by omega)]
    by_cases hk : k = 2 ∨ k = 4 ∨ k = 8
    · rw [if_pos hk]
      have hw : (k == 2 || k == 4 || k == 8) = true := by rcases hk with rfl | rfl | rfl <;> rfl
      have HW := Lib.hid hw
      obtain ⟨j, rfl⟩ := Int.eq_ofNat_of_zero_le (show 0 ≤ k by omega)
      have H := Lib.hid (take_any w g l 0 j HR.out (by omega) (by omega) hlen)
      have h8 : (takeB l 0 j).1.length ≤ 8 := by
        unfold takeB
        split
        · simp only [List.length_take]; omega
        · simp
      simp only [Int.toNat_natCast]
      generalize takeB l 0 j = u at *
      obtain ⟨m, l', e'⟩ := u
      have hj : (0 : Int) ≤ (j : Int) := by omega
      have hj8 : (j : Int) ≤ 8 := by omega
      simp only at h8 H ⊢
      clear hr hw hk
      go_enter Try.func44, Try.ntmps44
      go_wp2_with fail
      refine (err_is _ g 0 l HR.out).mono ?_
      rintro x w1 ⟨rfl, rfl⟩
      go_wp2_with fail
      refine (isWidth_any _ _).mono ?_
      rintro x w1 ⟨rfl, rfl⟩
      rw [HW.out]
      go_wp2_with fail
      refine (H.out).mono ?_
      rintro x w1 ⟨v1, rfl, hb1, hr1, hg1⟩
      have HB := Lib.hid hb1
      have HR1 := Lib.hid hr1
      have HG1 := Lib.hid hg1
      obtain ⟨A, c, rfl, q1, q2, q3⟩ := hb1
      have Q3 := Lib.hid q3
      clear q3 hr1 hg1
      unfold maxLen at q2
      go_wp2_with fail
      go_loop [5, 22] (fun n i => RWRel m n i) (fun _ i => m.length - (intOf i).toNat)
      case atStart => exact ⟨0, by omega, rfl, rfl⟩
      case round =>
        obtain ⟨k, hk, rfl, rfl⟩ := hrel
        by_cases hlt : k < m.length
        · obtain ⟨b, off, rfl, hb, hc⟩ : ∃ b off, A = some ⟨b, off, none⟩ ∧ b < w1.heap.size ∧ ∀ j (hj : j < m.length), w1.cell? ⟨b, off + j, none⟩ = some (.int .u8 (m[j].toNat : Int)) := by
            rcases Q3.out with h | h
            · subst h; simp at hlt
            · exact h
          have hcell := hc k hlt
          clear hc
          have hst := word_step m k hlt (by omega)
          have hx : m[k].toNat < 256 := m[k].toNat_lt
          generalize m[k].toNat = x at *
          have HS := Lib.hid hst
          clear hst
          generalize wordN (m.take k) = a at *
          go_wp2
          go_round
          case rel => exact ⟨k + 1, by omega, by go_num, by rw [HS.out]⟩
          case measure => simp [intOf]; omega
        · have hfin : m.take k = m := List.take_of_length_le (by omega)
          rw [hfin]
          go_wp2
          go_ret
          exact ⟨rfl, HR1.out, HG1.out⟩
    · rw [if_neg hk]
      have hw : (k == 2 || k == 4 || k == 8) = false := by simp; omega
      have HW := Lib.hid hw
      obtain ⟨A, c, h0, h1, h2, hf1, hf2, hby, hlc, hcm⟩ := hr.cells
      have HR1 := Lib.hid (HR.out.setErr 4)
      clear hr hw hk hby
      go_enter Try.func44, Try.ntmps44
      go_wp2_with fail
      refine (err_is _ g 0 l HR.out).mono ?_
      rintro x w1 ⟨rfl, rfl⟩
      go_wp2_with fail
      refine (isWidth_any _ _).mono ?_
      rintro x w1 ⟨rfl, rfl⟩
      rw [HW.out]
      go_wp2_with fail
      go_ret
      exact ⟨rfl, HR1.out, grown_set _ _ _ _⟩
  · rw [if_pos he]
    have he' : ((e : Int) != 0) = true := by simp; omega
    clear he hr
    go_enter Try.func44, Try.ntmps44
    go_wp2_with fail
    refine (err_is _ g e l HR.out).mono ?_
    rintro x w1 ⟨rfl, rfl⟩
    go_wp2_with fail
    go_ret
    exact ⟨rfl, HR.out, grown_refl _ _⟩
end Go.Proofs.Ytncjobeahpjnpaa
