/-
  Package page's small functions by their contracts: bytes.Equal, bytes.TrimRight of noughts, isKind, trimmed. Conditions: the bytes are fewer than 2^46.
-/
import Derived.Test.YtagchbpofoidmaaDoorPgA
import Derived.Test.YtagchbpofoidmaaDoorText
import Derived.Test.YtagchbpofoidmaaDoorRowq
namespace Go.Proofs.YtagchbpofoidmaaDoor
open Go.RowKit
set_option maxRecDepth 100000

theorem bytes_eq (l m : List UInt8) : ((⟨l.toArray⟩ : ByteArray).toList == (⟨m.toArray⟩ : ByteArray).toList) = decide (l = m) := by
  rw [ByteArray.toList_eq, ByteArray.toList_eq]
  by_cases h : l = m
  · subst h; simp
  · simp [h]
theorem bytes_lit (l m : List UInt8) : ((⟨l.toArray⟩ : ByteArray).toList == m) = decide (l = m) := by
  rw [ByteArray.toList_eq]
  by_cases h : l = m
  · subst h; simp
  · simp [h]
theorem equal_any (w : World) (u v : Value) (l m : List UInt8) (hu : Byt w u l) (hv : Byt w v m) :
    Calls Tryd.prog 53 #[u, v] w fun e w' => e = .returned (.bool (decide (l = m))) ∧ w = w' := by
  have T1 := text_of hu
  have T2 := text_of hv
  have E := Lib.hid (bytes_eq l m)
  obtain ⟨A, n, c, rfl, N, hnc, hcm⟩ := hu.form
  obtain ⟨A2, n2, c2, rfl, N2, hnc2, hcm2⟩ := hv.form
  clear hu hv
  generalize (⟨l.toArray⟩ : ByteArray) = s1 at *
  generalize (⟨m.toArray⟩ : ByteArray) = s2 at *
  go_enter Tryd.func53, Tryd.ntmps53
  go_wp2_with fail
  go_ret
  exact ⟨by rw [E.out]; rfl, rfl⟩
theorem isKind_any (k : Int) (w : World) : Calls Tryd.prog 37 #[.int .i64 k] w fun e w' => e = .returned (.bool (decide (1 ≤ k ∧ k ≤ 7))) ∧ w = w' := by
  by_cases h1 : 1 ≤ k
  · by_cases h7 : k ≤ 7
    · have hd : decide (1 ≤ k ∧ k ≤ 7) = true := by simp [h1, h7]
      rw [hd]
      go_enter Tryd.func37, Tryd.ntmps37
      go_wp2_with fail
      go_ret
      exact ⟨rfl, rfl⟩
    · have hd : decide (1 ≤ k ∧ k ≤ 7) = false := by simp [h7]
      rw [hd]
      go_enter Tryd.func37, Tryd.ntmps37
      go_wp2_with fail
      go_ret
      exact ⟨rfl, rfl⟩
  · have hd : decide (1 ≤ k ∧ k ≤ 7) = false := by simp [h1]
    rw [hd]
    go_enter Tryd.func37, Tryd.ntmps37
    go_wp2_with fail
    go_ret
    exact ⟨rfl, rfl⟩
/-- What a call that hands a part of its bytes back leaves. -/
def Part (w : World) (l : List UInt8) (e : Ending) (w' : World) : Prop := ∃ v, e = .returned v ∧ Byt w v l ∧ w = w'
def lenV : Value → Nat
  | .slice _ n _ => n
  | _ => 0
def TrimRel (w : World) (l : List UInt8) (s : Value) : Prop := ∃ (A : Option Addr) (k c : Nat), s = .slice A k c ∧ k ≤ l.length ∧ Byt w s (l.take k) ∧ k ≤ c ∧ c ≤ 9223372036854775807 ∧ trimR (l.take k) = trimR l
set_option maxRecDepth 100000 in
set_option maxHeartbeats 1000000 in
theorem trimByte_any (w : World) (v : Value) (l : List UInt8) (hv : Byt w v l) :
    Calls Tryd.prog 82 #[v, .int .u8 0] w (Part w (trimR l)) := by
  obtain ⟨A, n, c, rfl, N, hnc, hcm⟩ := hv.form
  have HV := Lib.hid hv
  clear hv
  go_enter Tryd.func82, Tryd.ntmps82
  go_wp2_with fail
  go_loop [0] (fun s => TrimRel w l s) (fun s => lenV s)
  case atStart => exact ⟨A, n, c, rfl, by have := N.out; omega, by have := N.out; rw [List.take_of_length_le (by omega)]; exact HV.out, hnc, hcm, by have := N.out; rw [List.take_of_length_le (by omega)]⟩
  case round =>
    obtain ⟨A1, k, c1, rfl, hk, hb, hkc, hcm1, ht⟩ := hrel
    have HB := Lib.hid hb
    have HT := Lib.hid ht
    clear hb ht
    cases k with
    | zero =>
      go_wp2_with fail
      go_ret
      refine ⟨_, rfl, ?_, rfl⟩
      have h1 := HT.out
      rw [List.take_zero] at h1
      rw [← h1]
      exact HB.out
    | succ j =>
      have hkl : j < (l.take (j + 1)).length := by rw [List.length_take]; omega
      obtain ⟨b, off, rfl, hb, hc⟩ := HB.out.at (k := j) hkl
      have hcell := hc j hkl
      have hsn : l.take (j + 1) = l.take j ++ [l[j]] := by rw [List.take_succ_eq_append_getElem (by omega)]
      rw [List.getElem_take] at hcell
      have HS := Lib.hid hsn
      have HU := Lib.hid (HB.out.upto (k := j) (by omega))
      clear hc hb hsn
      generalize l[j]'(by omega) = x at *
      by_cases hx : x = 0
      · subst hx
        have hz : ((0 : UInt8).toNat : Int) = 0 := rfl
        rw [hz] at hcell
        go_wp2_with fail
        go_round
        case rel => 
          refine ⟨_, j, c1, rfl, by omega, ?_, by omega, hcm1, ?_⟩
          · have := HU.out
            rw [List.take_take, Nat.min_eq_left (by omega)] at this
            exact this
          · rw [← HT.out, HS.out, trimR_zero]
        case measure => simp [lenV]
      · have hne : ((x.toNat : Int) == 0) = false := by
          have : x.toNat ≠ 0 := fun e => hx (UInt8.toNat_inj.1 e)
          simp; exact this
        go_wp2_with fail
        go_ret
        refine ⟨_, rfl, ?_, rfl⟩
        rw [← HT.out, HS.out, trimR_last _ _ hx, ← HS.out]
        exact HB.out
set_option maxRecDepth 100000 in
set_option maxHeartbeats 1000000 in
theorem trim_any (w : World) (v : Value) (l : List UInt8) (hv : Byt w v l) :
    Calls Tryd.prog 74 #[v, .string ⟨#[0]⟩] w (Part w (trimR l)) := by
  obtain ⟨A, n, c, rfl, N, hnc, hcm⟩ := hv.form
  have HV := Lib.hid hv
  clear hv
  by_cases h0 : n = 0
  · subst h0
    go_enter Tryd.func74, Tryd.ntmps74
    go_wp2_with fail
    go_ret
    refine ⟨_, rfl, ?_, rfl⟩
    obtain rfl : l = [] := List.eq_nil_of_length_eq_zero N.out.symm
    exact HV.out
  · have hn : ((n : Int) == 0) = false := by simp; exact h0
    clear h0
    go_enter Tryd.func74, Tryd.ntmps74
    go_wp2_with fail
    refine (trimByte_any w _ l HV.out).mono ?_
    rintro e w1 ⟨v1, rfl, hb1, rfl⟩
    go_wp2_with fail
    go_ret
    exact ⟨_, rfl, hb1, rfl⟩
theorem trimmed_any (w : World) (v : Value) (l : List UInt8) (hv : Byt w v l) :
    Calls Tryd.prog 54 #[v] w (Part w (trimR l)) := by
  have HV := Lib.hid hv
  clear hv
  go_enter Tryd.func54, Tryd.ntmps54
  go_wp2_with fail
  refine (trim_any w _ l HV.out).mono ?_
  rintro e w1 ⟨v1, rfl, hb1, rfl⟩
  go_wp2_with fail
  go_ret
  exact ⟨_, rfl, hb1, rfl⟩
end Go.Proofs.YtagchbpofoidmaaDoor
