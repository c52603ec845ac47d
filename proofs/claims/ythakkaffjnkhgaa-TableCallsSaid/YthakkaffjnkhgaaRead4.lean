/-
  A reader's Upto, Number, Block and Fixed by their contracts. Conditions: the bytes are fewer than 2^46.
-/
import Derived.Test.YthakkaffjnkhgaaRead3
namespace Go.Proofs.Ythakkaffjnkhgaa
open Go.RowKit
set_option maxRecDepth 100000

set_option maxRecDepth 100000 in
set_option maxHeartbeats 1000000 in
theorem upto_is (w : World) (g e most : Nat) (l : List UInt8) (hr : Rdr w g l e) :
    Calls Try.prog 37 #[.pointer (some ⟨g, 0, none⟩), .int .u64 (most : Int)] w (Told w g .u64 (uptoB l e most).1 (uptoB l e most).2.1 (uptoB l e most).2.2) := by
  obtain ⟨A, c, h0, h1, h2, hf1, hf2, hby, hlc, hcm⟩ := hr.cells
  have HR := Lib.hid hr
  have HB := Lib.hid hby
  clear hr hby
  unfold uptoB
  by_cases he : e = 0
  · subst he
    rw [if_neg (by omega)]
    have hok := firstB_ok l
    have herr := firstF_err l 0 0
    obtain ⟨n, sz, er, hfb⟩ : ∃ n sz er, firstB l = (n, sz, er) := ⟨_, _, _, rfl⟩
    unfold firstB at hfb hok
    rw [hfb] at hok herr
    unfold firstB
    rw [hfb]
    simp only at hok herr ⊢
    have HF := Lib.hid hfb
    clear hfb
    by_cases her : er = 0
    · subst her
      obtain ⟨hsz, hn⟩ := hok rfl
      have HN := Lib.hid hn
      clear hok herr hn
      obtain ⟨A1, n1, c1, r1, b1, N1, l1, m1⟩ := HB.out.cutrun 30 elemByte sizeByte sz hsz .i64
      have HR1 : Hid (Rdr (w.setCell ⟨g, 1, none⟩ (.slice A1 n1 c1)) g (l.drop sz) 0) := by
        have e1 : n1 = (l.drop sz).length := by have := N1.out; rw [List.length_drop]; omega
        rw [e1] at b1 ⊢
        exact HR.out.setRest b1
      obtain ⟨A4, c4, q0, q1, q2, qf1, qf2, _, _, _⟩ := HR1.out.cells
      have HR2 := Lib.hid (HR1.out.setErr 3)
      clear b1
      rw [if_neg (by omega)]
      by_cases hm : most < n
      · rw [if_pos hm]
        go_enter Try.func37, Try.ntmps37
        go_wp2_with fail
        refine (err_is _ g 0 l HR.out).mono ?_
        rintro x w1 ⟨rfl, rfl⟩
        go_wp2_with fail
        refine (first_any _ _ l HB.out).mono ?_
        rintro x w1 ⟨hx, rfl⟩
        unfold firstB at hx
        rw [HF.out] at hx
        subst hx
        go_wp2_with fail
        go_ret
        exact ⟨rfl, HR2.out, grown_trans (grown_set _ _ _ _) (grown_set _ _ _ _)⟩
      · rw [if_neg hm]
        go_enter Try.func37, Try.ntmps37
        go_wp2_with fail
        refine (err_is _ g 0 l HR.out).mono ?_
        rintro x w1 ⟨rfl, rfl⟩
        go_wp2_with fail
        refine (first_any _ _ l HB.out).mono ?_
        rintro x w1 ⟨hx, rfl⟩
        unfold firstB at hx
        rw [HF.out] at hx
        subst hx
        go_wp2_with fail
        go_ret
        exact ⟨rfl, HR1.out, grown_set _ _ _ _⟩
    · rw [if_pos her]
      have her' : ((er : Int) != 0) = true := by simp; omega
      have HR1 := Lib.hid (HR.out.setErr er)
      clear hok herr her
      go_enter Try.func37, Try.ntmps37
      go_wp2_with fail
      refine (err_is _ g 0 l HR.out).mono ?_
      rintro x w1 ⟨rfl, rfl⟩
      go_wp2_with fail
      refine (first_any _ _ l HB.out).mono ?_
      rintro x w1 ⟨hx, rfl⟩
      unfold firstB at hx
      rw [HF.out] at hx
      subst hx
      go_wp2_with fail
      go_ret
      exact ⟨rfl, HR1.out, grown_set _ _ _ _⟩
  · rw [if_pos he]
    have he' : ((e : Int) != 0) = true := by simp; omega
    clear he
    go_enter Try.func37, Try.ntmps37
    go_wp2_with fail
    refine (err_is _ g e l HR.out).mono ?_
    rintro x w1 ⟨rfl, rfl⟩
    go_wp2_with fail
    go_ret
    exact ⟨rfl, HR.out, grown_refl _ _⟩
theorem upto_nil (w : World) (most : Nat) :
    Calls Try.prog 37 #[.pointer none, .int .u64 (most : Int)] w fun x w' => x = .returned (.int .u64 0) ∧ w = w' := by
  go_enter Try.func37, Try.ntmps37
  go_wp2_with fail
  refine (err_nil _).mono ?_
  rintro x w1 ⟨rfl, rfl⟩
  go_wp2_with fail
  go_ret
  exact ⟨rfl, rfl⟩

end Go.Proofs.Ythakkaffjnkhgaa
