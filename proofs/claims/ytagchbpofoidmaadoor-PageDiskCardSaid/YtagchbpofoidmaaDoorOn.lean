/-
  Package crc's sums by their contracts: run, On, Step, Sum. Conditions: words are below 2^32.
-/
import Derived.Test.YtagchbpofoidmaaDoorTab
import Derived.Test.YtagchbpofoidmaaDoorRowq
namespace Go.Proofs.YtagchbpofoidmaaDoor
open Go.RowKit
set_option maxRecDepth 100000

/-- What a call that answers a word leaves. -/
def Word32 (w : World) (n : Nat) (e : Ending) (w' : World) : Prop := e = .returned (.int .u32 (n : Int)) ∧ Below w.heap.size w w'

def RunRel (t : List Nat) (s : Nat) (l : List UInt8) (v i : Value) : Prop := ∃ k : Nat, k ≤ l.length ∧ i = .int .i64 (k : Int) ∧ v = .int .u32 (runC t s (l.take k) : Int)

theorem c_low (y : Nat) (x : UInt8) : bits .xor .u8 ((y : Int) % 256) (x.toNat : Int) = ((y % 256 ^^^ x.toNat : Nat) : Int) := by
  rw [show (y : Int) % 256 = ((y % 256 : Nat) : Int) by omega]
  exact u8_xor_nat _ _ (Nat.mod_lt _ (by omega)) (byte_lt x)
theorem c_step (y z : Nat) (hy : y < 4294967296) (hz : z < 4294967296) : bits .xor .u32 (z : Int) ((y : Int) / 256) = ((z ^^^ y / 256 : Nat) : Int) := by
  rw [show (y : Int) / 256 = ((y / 256 : Nat) : Int) by omega]
  exact u32_xor_nat _ _ hz (by omega)
theorem runC_take (t : List Nat) (s : Nat) (l : List UInt8) (k : Nat) (hk : k < l.length) : runC t s (l.take (k + 1)) = stepC t (runC t s (l.take k)) l[k] := by
  rw [List.take_succ_eq_append_getElem hk, runC_snoc]

set_option maxRecDepth 100000 in
set_option maxHeartbeats 1000000 in
theorem crcrun_any (w : World) (t : List Nat) (s : Nat) (v : Value) (l : List UInt8) (ht : Tab t) (hs : s < 4294967296) (hv : Byt w v l) (hlen : l.length ≤ 70368744177664) :
    Calls Tryd.prog 91 #[.agg (tabV t), .int .u32 (s : Int), v] w (Word32 w (runC t s l)) := by
  have HV := Lib.hid (hv.alloc (.cells (tabV t) 101))
  obtain ⟨A, n, c, rfl, N, hnc, hcm⟩ := hv.form
  have HA := Lib.hid (ATab.new w t)
  have HT := Lib.hid ht
  have HS := Lib.hid hs
  have hl : n ≤ 70368744177664 := by have := N.out; omega
  clear hv ht hs hlen
  go_enter Tryd.func91, Tryd.ntmps91
  go_wp2_with fail
  go_loop [1, 11] (fun v i => RunRel t s l v i) (fun _ i => n - (intOf i).toNat)
  case atStart => exact ⟨0, by omega, rfl, rfl⟩
  case round =>
    obtain ⟨k, hk, rfl, rfl⟩ := hrel
    have HY := Lib.hid (runC_lt HT.out (l.take k) s HS.out)
    by_cases hlt : k < l.length
    · obtain ⟨b, off, rfl, hb, hc⟩ := HV.out.at hlt
      have hck := hc k hlt
      have hkn : (k : Int) < (n : Int) := by have := N.out; omega
      have HR := Lib.hid (runC_take t s l k hlt)
      generalize l[k] = x at *
      generalize runC t s (l.take k) = y at *
      have X1 := c_low y x
      have hj : y % 256 ^^^ x.toNat < 256 := xor8_lt (Nat.mod_lt _ (by omega)) (byte_lt x)
      have HC := HA.out.cell (y % 256 ^^^ x.toNat) (by rw [HT.out.1]; exact hj)
      have HZ := Lib.hid (c_step y (t.getD (y % 256 ^^^ x.toNat) 0) HY.out (HT.out.getD _))
      have HF : Hid (stepC t y x = t.getD (y % 256 ^^^ x.toNat) 0 ^^^ y / 256) := rfl
      generalize y % 256 ^^^ x.toNat = j at *
      generalize t.getD j 0 = z at *
      have hj' : (j : Int) < 256 := by omega
      clear hc hb
      go_wp2_with fail
      go_round
      case rel => exact ⟨k + 1, by omega, by go_num, by rw [HR.out, HF.out, HZ.out]⟩
      case measure => simp [intOf]; omega
    · have e : k = l.length := by omega
      have hkn : ¬ (k : Int) < (n : Int) := by have := N.out; omega
      have HE : Hid (runC t s (l.take k) = runC t s l) := by rw [e, List.take_length]; exact rfl
      generalize runC t s (l.take k) = y at *
      go_wp2_with fail
      go_ret
      exact ⟨ret_int (by rw [HE.out]), below_new w _⟩

theorem u32_plain : ¬ IntKind.u32.signed = true := by decide
theorem c_not (s : Nat) (hs : s < 4294967296) : bits .xor .u32 IntKind.u32.max (s : Int) = ((notC s : Nat) : Int) := by
  rw [show IntKind.u32.max = ((4294967295 : Nat) : Int) by decide +kernel, u32_xor_nat _ _ (by omega) hs, notC_xor hs, Nat.xor_comm]

set_option maxHeartbeats 1000000 in
theorem crcon_any (w : World) (t : List Nat) (s : Nat) (v : Value) (l : List UInt8) (ht : Tab t) (hs : s < 4294967296) (hv : Byt w v l) (hlen : l.length ≤ 70368744177664) :
    Calls Tryd.prog 86 #[.agg (tabV t), .int .u32 (s : Int), v] w (Word32 w (onC t s l)) := by
  have HV := Lib.hid (hv.alloc (.cells (tabV t) 101))
  have HA := Lib.hid (ATab.new w t)
  have HT := Lib.hid ht
  have HS := Lib.hid hs
  have HL := Lib.hid hlen
  clear hv ht hs hlen
  have hu := u32_plain
  have C1 := c_not s HS.out
  go_enter Tryd.func86, Tryd.ntmps86
  go_wp2_with (refine wpList_loadTab rfl _ rfl _ rfl _ HA.out HT.out.1 ?_)
  refine (crcrun_any _ t (notC s) v l HT.out (notC_lt s) HV.out HL.out).mono ?_
  rintro e w1 ⟨rfl, hb1⟩
  have C2 := c_not _ (runC_lt HT.out l _ (notC_lt s))
  have HB := Lib.hid ((below_new w _).trans (hb1.mono (by simp)))
  clear hb1
  have HF : Hid (onC t s l = notC (runC t (notC s) l)) := rfl
  generalize runC t (notC s) l = y at *
  go_wp2_with fail
  go_ret
  exact ⟨ret_int (by rw [HF.out]), HB.out⟩

end Go.Proofs.YtagchbpofoidmaaDoor
