/-
  A reader's Upto, Number, Block and Fixed by their contracts. Conditions: the bytes are fewer than 2^46.
-/
import Derived.Test.YtledbkohbjefhaaRead3
namespace Go.Proofs.Ytledbkohbjefhaa
open Go.RowKit

set_option maxRecDepth 100000 in
set_option maxHeartbeats 1000000 in
theorem upto_is (w : World) (g e most : Nat) (l : List UInt8) (hr : Rdr w g l e) :
    Calls Try.prog 26 #[.pointer (some ⟨g, 0, none⟩), .int .u64 (most : Int)] w (Told w g .u64 (uptoB l e most).1 (uptoB l e most).2.1 (uptoB l e most).2.2) := by
  obtain ⟨A, c, h0, h1, h2, hf1, hf2, hby, hlc, hcm⟩ := hr.cells
  have HR := Lib.hid hr
  have HB := Lib.hid hby
  clear hr hby
  unfold uptoB
  by_cases he : e = 0
  · subst he
    rw [if_neg (by omega)]
    have hok := firstB_ok l
    have herr := firstF_err l 0 0
    obtain ⟨n, sz, er, hfb⟩ : ∃ n sz er, firstB l = (n, sz, er) := ⟨_, _, _, rfl⟩
    unfold firstB at hfb hok
    rw [hfb] at hok herr
    unfold firstB
    rw [hfb]
    simp only at hok herr ⊢
    have HF := Lib.hid hfb
    clear hfb
    by_cases her : er = 0
    · subst her
      obtain ⟨hsz, hn⟩ := hok rfl
      have HN := Lib.hid hn
      clear hok herr hn
      obtain ⟨A1, n1, c1, r1, b1, N1, l1, m1⟩ := HB.out.cutrun 24 elemByte sizeByte sz hsz .i64
      have HR1 : Hid (Rdr (w.setCell ⟨g, 1, none⟩ (.slice A1 n1 c1)) g (l.drop sz) 0) := by
        have e1 : n1 = (l.drop sz).length := by have := N1.out; rw [List.length_drop]; omega
        rw [e1] at b1 ⊢
        exact HR.out.setRest b1
      obtain ⟨A4, c4, q0, q1, q2, qf1, qf2, _, _, _⟩ := HR1.out.cells
      have HR2 := Lib.hid (HR1.out.setErr 3)
      clear b1
      rw [if_neg (by omega)]
      by_cases hm : most < n
      · rw [if_pos hm]
        go_enter Try.func26, Try.ntmps26
        go_wp2_with fail
        refine (err_is _ g 0 l HR.out).mono ?_
        rintro x w1 ⟨rfl, rfl⟩
        go_wp2_with fail
        refine (first_any _ _ l HB.out).mono ?_
        rintro x w1 ⟨hx, rfl⟩
        unfold firstB at hx
        rw [HF.out] at hx
        subst hx
        go_wp2_with fail
        go_ret
        exact ⟨rfl, HR2.out, grown_trans (grown_set _ _ _ _) (grown_set _ _ _ _)⟩
      · rw [if_neg hm]
        go_enter Try.func26, Try.ntmps26
        go_wp2_with fail
        refine (err_is _ g 0 l HR.out).mono ?_
        rintro x w1 ⟨rfl, rfl⟩
        go_wp2_with fail
        refine (first_any _ _ l HB.out).mono ?_
        rintro x w1 ⟨hx, rfl⟩
        unfold firstB at hx
        rw [HF.out] at hx
        subst hx
        go_wp2_with fail
        go_ret
        exact ⟨rfl, HR1.out, grown_set _ _ _ _⟩
    · rw [if_pos her]
      have her' : ((er : Int) != 0) = true := by simp; omega
      have HR1 := Lib.hid (HR.out.setErr er)
      clear hok herr her
      go_enter Try.func26, Try.ntmps26
      go_wp2_with fail
      refine (err_is _ g 0 l HR.out).mono ?_
      rintro x w1 ⟨rfl, rfl⟩
      go_wp2_with fail
      refine (first_any _ _ l HB.out).mono ?_
      rintro x w1 ⟨hx, rfl⟩
      unfold firstB at hx
      rw [HF.out] at hx
      subst hx
      go_wp2_with fail
      go_ret
      exact ⟨rfl, HR1.out, grown_set _ _ _ _⟩
  · rw [if_pos he]
    have he' : ((e : Int) != 0) = true := by simp; omega
    clear he
    go_enter Try.func26, Try.ntmps26
    go_wp2_with fail
    refine (err_is _ g e l HR.out).mono ?_
    rintro x w1 ⟨rfl, rfl⟩
    go_wp2_with fail
    go_ret
    exact ⟨rfl, HR.out, grown_refl _ _⟩
theorem upto_nil (w : World) (most : Nat) :
    Calls Try.prog 26 #[.pointer none, .int .u64 (most : Int)] w fun x w' => x = .returned (.int .u64 0) ∧ w = w' := by
  go_enter Try.func26, Try.ntmps26
  go_wp2_with fail
  refine (err_nil _).mono ?_
  rintro x w1 ⟨rfl, rfl⟩
  go_wp2_with fail
  go_ret
  exact ⟨rfl, rfl⟩

theorem number_is (w : World) (g e : Nat) (l : List UInt8) (hr : Rdr w g l e) :
    Calls Try.prog 13 #[.pointer (some ⟨g, 0, none⟩)] w (Told w g .u64 (uptoB l e 18446744073709551615).1 (uptoB l e 18446744073709551615).2.1 (uptoB l e 18446744073709551615).2.2) := by
  have h := upto_is w g e 18446744073709551615 l hr
  generalize uptoB l e 18446744073709551615 = u at *
  have H := Lib.hid h
  clear h hr
  go_enter Try.func13, Try.ntmps13
  go_wp2_with fail
  refine (H.out).mono ?_
  rintro x w1 ⟨rfl, hr1, hg1⟩
  go_wp2_with fail
  go_ret
  exact ⟨rfl, hr1, hg1⟩
theorem number_nil (w : World) :
    Calls Try.prog 13 #[.pointer none] w fun x w' => x = .returned (.int .u64 0) ∧ w = w' := by
  have H := Lib.hid (upto_nil w 18446744073709551615)
  go_enter Try.func13, Try.ntmps13
  go_wp2_with fail
  refine (H.out).mono ?_
  rintro x w1 ⟨rfl, rfl⟩
  go_wp2_with fail
  go_ret
  exact ⟨rfl, rfl⟩

theorem take_any (w : World) (g : Nat) (l : List UInt8) (skip n : Nat) (hr : Rdr w g l 0) (hs : skip ≤ l.length) (hn64 : n < 18446744073709551616) (hlen : l.length ≤ 70368744177664) :
    Calls Try.prog 30 #[.pointer (some ⟨g, 0, none⟩), .int .i64 (skip : Int), .int .u64 (n : Int)] w (Took w g (takeB l skip n).1 (takeB l skip n).2.1 (takeB l skip n).2.2) := by
  unfold takeB
  split
  · exact take_ok w g 0 l skip n hr (by omega) hlen
  · exact take_more w g 0 l skip n hr hs (by omega) hn64

set_option maxRecDepth 100000 in
set_option maxHeartbeats 1000000 in
theorem rblock_is (w : World) (g e : Nat) (l : List UInt8) (hr : Rdr w g l e) (hlen : l.length ≤ 70368744177664) :
    Calls Try.prog 9 #[.pointer (some ⟨g, 0, none⟩)] w (Took w g (blockB l e).1 (blockB l e).2.1 (blockB l e).2.2) := by
  obtain ⟨A, c, h0, h1, h2, hf1, hf2, hby, hlc, hcm⟩ := hr.cells
  have HR := Lib.hid hr
  have HB := Lib.hid hby
  clear hr hby
  unfold blockB
  by_cases he : e = 0
  · subst he
    rw [if_neg (by omega)]
    have hok := firstB_ok l
    obtain ⟨n, sz, er, hfb⟩ : ∃ n sz er, firstB l = (n, sz, er) := ⟨_, _, _, rfl⟩
    rw [hfb] at hok ⊢
    simp only at hok ⊢
    have HF := Lib.hid hfb
    clear hfb
    by_cases her : er = 0
    · subst her
      obtain ⟨hsz, hn⟩ := hok rfl
      rw [if_neg (by omega)]
      have H := Lib.hid (take_any w g l sz n HR.out hsz hn hlen)
      clear hok hn
      generalize takeB l sz n = u at *
      go_enter Try.func9, Try.ntmps9
      go_wp2_with fail
      refine (err_is _ g 0 l HR.out).mono ?_
      rintro x w1 ⟨rfl, rfl⟩
      go_wp2_with fail
      refine (first_any _ _ l HB.out).mono ?_
      rintro x w1 ⟨hx, rfl⟩
      rw [HF.out] at hx
      subst hx
      go_wp2_with fail
      refine (H.out).mono ?_
      rintro x w1 ⟨v1, rfl, hb1, hr1, hg1⟩
      go_wp2_with fail
      go_ret
      exact ⟨_, rfl, hb1, hr1, hg1⟩
    · rw [if_pos her]
      have her' : ((er : Int) != 0) = true := by simp; omega
      have HR1 := Lib.hid (HR.out.setErr er)
      clear hok her
      go_enter Try.func9, Try.ntmps9
      go_wp2_with fail
      refine (err_is _ g 0 l HR.out).mono ?_
      rintro x w1 ⟨rfl, rfl⟩
      go_wp2_with fail
      refine (first_any _ _ l HB.out).mono ?_
      rintro x w1 ⟨hx, rfl⟩
      rw [HF.out] at hx
      subst hx
      go_wp2_with fail
      go_ret
      exact ⟨_, rfl, Byt.nil _, HR1.out, grown_set _ _ _ _⟩
  · rw [if_pos he]
    have he' : ((e : Int) != 0) = true := by simp; omega
    clear he
    go_enter Try.func9, Try.ntmps9
    go_wp2_with fail
    refine (err_is _ g e l HR.out).mono ?_
    rintro x w1 ⟨rfl, rfl⟩
    go_wp2_with fail
    go_ret
    exact ⟨_, rfl, Byt.nil _, HR.out, grown_refl _ _⟩

set_option maxRecDepth 100000 in
set_option maxHeartbeats 1000000 in
theorem fixed_is (w : World) (g e : Nat) (l : List UInt8) (n : Int) (hr : Rdr w g l e) (hlen : l.length ≤ 70368744177664) (hn : n ≤ 9223372036854775807) :
    Calls Try.prog 27 #[.pointer (some ⟨g, 0, none⟩), .int .i64 n] w (Took w g (fixedB l e n.toNat).1 (fixedB l e n.toNat).2.1 (fixedB l e n.toNat).2.2) := by
  have HR := Lib.hid hr
  clear hr
  unfold fixedB
  by_cases he : e = 0
  · subst he
    rw [if_neg (by omega)]
    have H := Lib.hid (take_any w g l 0 n.toNat HR.out (by omega) (by omega) hlen)
    generalize takeB l 0 n.toNat = u at *
    go_enter Try.func27, Try.ntmps27
    go_wp2_with fail
    refine (err_is _ g 0 l HR.out).mono ?_
    rintro x w1 ⟨rfl, rfl⟩
    go_wp2_with fail
    rw [show max n 0 = ((n.toNat : Nat) : Int) from by omega]
    refine (H.out).mono ?_
    rintro x w1 ⟨v1, rfl, hb1, hr1, hg1⟩
    go_wp2_with fail
    go_ret
    exact ⟨_, rfl, hb1, hr1, hg1⟩
  · rw [if_pos he]
    have he' : ((e : Int) != 0) = true := by simp; omega
    clear he
    go_enter Try.func27, Try.ntmps27
    go_wp2_with fail
    refine (err_is _ g e l HR.out).mono ?_
    rintro x w1 ⟨rfl, rfl⟩
    go_wp2_with fail
    go_ret
    exact ⟨_, rfl, Byt.nil _, HR.out, grown_refl _ _⟩
end Go.Proofs.Ytledbkohbjefhaa
