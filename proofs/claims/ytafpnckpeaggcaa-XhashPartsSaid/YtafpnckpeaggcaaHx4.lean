/-
  xhash.Sum and xhash.Text by their contracts: the hash of the bytes. Conditions: the bytes are fewer than 2^46.
-/
import Derived.Test.YtafpnckpeaggcaaHx3
namespace Go.Proofs.Ytafpnckpeaggcaa
open Go.RowKit

set_option maxRecDepth 100000 in
set_option maxHeartbeats 4000000 in
theorem sum_big (w : World) (s : Nat) (v : Value) (l : List UInt8) (hv : Byt w v l) (hs : s < 18446744073709551616) (hlen : l.length ≤ 70368744177664) (hl : 32 ≤ l.length) :
    Calls Try.prog 14 #[.int .u64 (s : Int), v] w (Word64 w (sumW s l)) := by
  obtain ⟨A, n, c, rfl, N, hnc, hcm⟩ := hv.form
  have hn32 : (32 : Int) ≤ (n : Int) := by have := N.out; omega
  obtain ⟨A2, n2, c2, r2, b2, N2, l2, m2⟩ := hv.cutrun 27 elemByte sizeByte (n - n % 32) (by omega) .i64
  rw [show ((n - n % 32 : Nat) : Int) = (n : Int) - (n : Int) % 32 by omega] at r2
  rw [show n - n % 32 = 32 * (l.length / 32) by have := N.out; omega] at b2
  have HB2 := Lib.hid b2
  have HV := Lib.hid hv
  have HS := Lib.hid hs
  have HL := Lib.hid hlen
  have HF : Hid (sumW s l = avalW (restW (addW (stripesW s l) n) (l.drop (32 * (l.length / 32))))) := by unfold sumW headW; rw [if_pos hl, ← N.out]; exact rfl
  have hcm' : (n : Int) ≤ 9223372036854775807 := by omega
  have hl2 : (l.drop (32 * (l.length / 32))).length ≤ 70368744177664 := by rw [List.length_drop]; omega
  generalize l.drop (32 * (l.length / 32)) = lr at *
  clear hv hs hlen hl b2
  go_enter Try.func14, Try.ntmps14
  go_wp2_with fail
  refine (stripes_any _ s _ l HV.out HS.out HL.out).mono ?_
  rintro e w1 ⟨rfl, hb1⟩
  have HB2a := Lib.hid (HB2.out.below hb1)
  go_wp2_with fail
  rw [w_add]
  refine (rest_any _ _ _ lr HB2a.out (addW_lt _ _) hl2).mono ?_
  rintro e w2 ⟨rfl, hb2⟩
  go_wp2_with fail
  refine (aval_any _ _ (restW_lt _ _ (addW_lt _ _))).mono ?_
  rintro e w3 ⟨rfl, rfl⟩
  go_wp2_with fail
  go_ret
  exact ⟨ret_int (by rw [HF.out]), hb1.trans (hb2.mono hb1.size)⟩

set_option maxRecDepth 100000 in
set_option maxHeartbeats 4000000 in
theorem sum_small (w : World) (s : Nat) (v : Value) (l : List UInt8) (hv : Byt w v l) (hs : s < 18446744073709551616) (hlen : l.length ≤ 70368744177664) (hl : ¬ 32 ≤ l.length) :
    Calls Try.prog 14 #[.int .u64 (s : Int), v] w (Word64 w (sumW s l)) := by
  obtain ⟨A, n, c, rfl, N, hnc, hcm⟩ := hv.form
  have hn32 : ¬ (32 : Int) ≤ (n : Int) := by have := N.out; omega
  obtain ⟨A2, n2, c2, r2, b2, N2, l2, m2⟩ := hv.cutrun 27 elemByte sizeByte (n - n % 32) (by omega) .i64
  rw [show ((n - n % 32 : Nat) : Int) = (n : Int) - (n : Int) % 32 by omega] at r2
  rw [show n - n % 32 = 32 * (l.length / 32) by have := N.out; omega] at b2
  have HB2 := Lib.hid b2
  have HV := Lib.hid hv
  have HS := Lib.hid hs
  have HL := Lib.hid hlen
  have HF : Hid (sumW s l = avalW (restW (addW (addW s xp5) n) (l.drop (32 * (l.length / 32))))) := by unfold sumW headW; rw [if_neg hl, ← N.out]; exact rfl
  have hcm' : (n : Int) ≤ 9223372036854775807 := by omega
  have hl2 : (l.drop (32 * (l.length / 32))).length ≤ 70368744177664 := by rw [List.length_drop]; omega
  generalize l.drop (32 * (l.length / 32)) = lr at *
  clear hv hs hlen hl b2
  go_enter Try.func14, Try.ntmps14
  go_wp2_with fail
  rw [w_a5, w_add]
  refine (rest_any _ _ _ lr HB2.out (addW_lt _ _) hl2).mono ?_
  rintro e w2 ⟨rfl, hb2⟩
  go_wp2_with fail
  refine (aval_any _ _ (restW_lt _ _ (addW_lt _ _))).mono ?_
  rintro e w3 ⟨rfl, rfl⟩
  go_wp2_with fail
  go_ret
  exact ⟨ret_int (by rw [HF.out]), hb2⟩

theorem sum_any (w : World) (s : Nat) (v : Value) (l : List UInt8) (hv : Byt w v l) (hs : s < 18446744073709551616) (hlen : l.length ≤ 70368744177664) :
    Calls Try.prog 14 #[.int .u64 (s : Int), v] w (Word64 w (sumW s l)) := by
  by_cases h : 32 ≤ l.length
  · exact sum_big w s v l hv hs hlen h
  · exact sum_small w s v l hv hs hlen h

set_option maxHeartbeats 4000000 in
theorem text_any (w : World) (s : Nat) (l : List UInt8) (hs : s < 18446744073709551616) (hlen : l.length ≤ 70368744177664) :
    Calls Try.prog 17 #[.int .u64 (s : Int), .string ⟨l.toArray⟩] w (Word64 w (sumW s l)) := by
  obtain ⟨v1, w1, hrun, hby, hb1⟩ := bytes_of w l hlen
  have H := Lib.hid (sum_any w1 s v1 l hby hs hlen)
  have HB := Lib.hid hb1
  clear hs hlen hby hb1
  go_enter Try.func17, Try.ntmps17
  go_wp2_with fail
  refine (H.out).mono ?_
  rintro e w2 ⟨rfl, hb2⟩
  go_wp2_with fail
  go_ret
  exact ⟨rfl, HB.out.trans (hb2.mono HB.out.size)⟩
end Go.Proofs.Ytafpnckpeaggcaa
