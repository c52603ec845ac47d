/-
  A reader's Upto, Number, Block and Fixed by their contracts. Conditions: the bytes are fewer than 2^46.
-/
import Derived.Test.YtncjobeahpjnpaaRead3
namespace Go.Proofs.Ytncjobeahpjnpaa
open Go.RowKit
set_option maxRecDepth 100000

theorem take_any (w : World) (g : Nat) (l : List UInt8) (skip n : Nat) (hr : Rdr w g l 0) (hs : skip ≤ l.length) (hn64 : n < 18446744073709551616) (hlen : l.length ≤ 70368744177664) :
    Calls Try.prog 56 #[.pointer (some ⟨g, 0, none⟩), .int .i64 (skip : Int), .int .u64 (n : Int)] w (Took w g (takeB l skip n).1 (takeB l skip n).2.1 (takeB l skip n).2.2) := by
  unfold takeB
  split
  · exact take_ok w g 0 l skip n hr (by omega) hlen
  · exact take_more w g 0 l skip n hr hs (by omega) hn64

set_option maxRecDepth 100000 in
set_option maxHeartbeats 1000000 in
theorem fixed_is (w : World) (g e : Nat) (l : List UInt8) (n : Int) (hr : Rdr w g l e) (hlen : l.length ≤ 70368744177664) (hn : n ≤ 9223372036854775807) :
    Calls Try.prog 45 #[.pointer (some ⟨g, 0, none⟩), .int .i64 n] w (Took w g (fixedB l e n.toNat).1 (fixedB l e n.toNat).2.1 (fixedB l e n.toNat).2.2) := by
  have HR := Lib.hid hr
  clear hr
  unfold fixedB
  by_cases he : e = 0
  · subst he
    rw [if_neg (by omega)]
    have H := Lib.hid (take_any w g l 0 n.toNat HR.out (by omega) (by omega) hlen)
    by_cases hn0 : n < 0
    · have hn0' : ¬ 0 ≤ n := by omega
      rw [show n.toNat = 0 by omega] at H ⊢
      generalize takeB l 0 0 = u at *
      go_enter Try.func45, Try.ntmps45
      go_wp2_with fail
      refine (err_is _ g 0 l HR.out).mono ?_
      rintro x w1 ⟨rfl, rfl⟩
      go_wp2_with fail
      first | rw [show max n 0 = 0 from by omega] | skip
      refine (H.out).mono ?_
      rintro x w1 ⟨v1, rfl, hb1, hr1, hg1⟩
      go_wp2_with fail
      go_ret
      exact ⟨_, rfl, hb1, hr1, hg1⟩
    · obtain ⟨j, rfl⟩ := Int.eq_ofNat_of_zero_le (show 0 ≤ n by omega)
      rw [Int.toNat_natCast] at H ⊢
      generalize takeB l 0 j = u at *
      clear hn0
      go_enter Try.func45, Try.ntmps45
      go_wp2_with fail
      refine (err_is _ g 0 l HR.out).mono ?_
      rintro x w1 ⟨rfl, rfl⟩
      go_wp2_with fail
      first | rw [show max (j : Int) 0 = (j : Int) from by omega] | skip
      refine (H.out).mono ?_
      rintro x w1 ⟨v1, rfl, hb1, hr1, hg1⟩
      go_wp2_with fail
      go_ret
      exact ⟨_, rfl, hb1, hr1, hg1⟩
  · rw [if_pos he]
    have he' : ((e : Int) != 0) = true := by simp; omega
    clear he
    go_enter Try.func45, Try.ntmps45
    go_wp2_with fail
    refine (err_is _ g e l HR.out).mono ?_
    rintro x w1 ⟨rfl, rfl⟩
    go_wp2_with fail
    go_ret
    exact ⟨_, rfl, Byt.nil _, HR.out, grown_refl _ _⟩
end Go.Proofs.Ytncjobeahpjnpaa
