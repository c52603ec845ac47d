/-
  Rows of slices, and package crc's Parts by its contract: the sum of all parts, one behind the other. Conditions: the bytes of a part are fewer than 2^46.
-/
import Derived.Test.YtagchbpofoidmaaDoorOn
namespace Go.Proofs.YtagchbpofoidmaaDoor
open Go.RowKit
set_option maxRecDepth 100000

/-- The sum of parts. -/
def partsC (t : List Nat) (ls : List (List UInt8)) : Nat := ls.foldl (onC t) 0
theorem foldl_onC {t : List Nat} (ht : Tab t) : ∀ (ls : List (List UInt8)) (s : Nat), s < 4294967296 → ls.foldl (onC t) s = onC t s ls.flatten := by
  intro ls
  induction ls with
  | nil => intro s hs; exact (onC_nil t s hs).symm
  | cons l ls ih => intro s hs; rw [List.foldl_cons, ih _ (onC_lt _ _ _), List.flatten_cons, onC_app ht]
theorem partsC_is {t : List Nat} (ht : Tab t) (ls : List (List UInt8)) : partsC t ls = onC t 0 ls.flatten := foldl_onC ht ls 0 (by omega)
theorem partsC_lt {t : List Nat} (ht : Tab t) (ls : List (List UInt8)) : partsC t ls < 4294967296 := by rw [partsC_is ht]; exact onC_lt _ _ _
theorem partsC_take (t : List Nat) (ls : List (List UInt8)) (k : Nat) (hk : k < ls.length) : partsC t (ls.take (k + 1)) = onC t (partsC t (ls.take k)) ls[k] := by
  unfold partsC
  rw [List.take_succ_eq_append_getElem hk, List.foldl_append]
  rfl

def ThroughRel (w : World) (t : List Nat) (ls : List (List UInt8)) (s i : Value) (wr : World) : Prop :=
  ∃ k : Nat, k ≤ ls.length ∧ i = .int .i64 (k : Int) ∧ s = .int .u32 (partsC t (ls.take k) : Int) ∧ Below (w.heap.size + 1) (w.alloc (.cells (tabV t) 101)) wr

set_option maxRecDepth 100000 in
set_option maxHeartbeats 1000000 in
theorem crcthrough_any (w : World) (t : List Nat) (v : Value) (vs : List Value) (ls : List (List UInt8)) (ht : Tab t) (hv : Rowz w v vs) (hl : Byts w vs ls) (hlen : ∀ l ∈ ls, l.length ≤ 70368744177664) :
    Calls Tryd.prog 78 #[.agg (tabV t), v] w (Word32 w (partsC t ls)) := by
  have HV := Lib.hid (hv.below (below_new w (.cells (tabV t) 101)))
  have HL := Lib.hid (hl.below (below_new w (.cells (tabV t) 101)))
  obtain ⟨A, n, c, rfl, N, hnc, hcm⟩ := hv.form
  have HA := Lib.hid (ATab.new w t)
  have HT := Lib.hid ht
  have HN := Lib.hid hlen
  have NL : Hid (n = ls.length) := N.out.trans hl.1
  clear hv ht hlen hl
  go_enter Tryd.func78, Tryd.ntmps78
  go_wp2_with fail
  go_loopw [5, 10] (fun s i wr => ThroughRel w t ls s i wr) (fun _ i _ => n - (intOf i).toNat)
  case atStart => exact ⟨0, by omega, rfl, rfl, Below.refl _ _⟩
  case round =>
    obtain ⟨k, hk, rfl, rfl, hbel⟩ := hrel
    have hbel' : Below (w.alloc (.cells (tabV t) 101)).heap.size (w.alloc (.cells (tabV t) 101)) wr := hbel.mono (by simp)
    have HA1 := Lib.hid (HA.out.below hbel')
    have HV1 := Lib.hid (HV.out.below hbel')
    have HL1 := Lib.hid (HL.out.below hbel')
    have HB := Lib.hid hbel
    have HP := Lib.hid (partsC_lt HT.out (ls.take k))
    clear hbel hbel'
    by_cases hlt : k < ls.length
    · have hkv : k < vs.length := by have := HL.out.1; omega
      obtain ⟨b, off, rfl, hb, hc⟩ := HV1.out.at hkv
      have hck := hc k hkv
      have hkn : (k : Int) < (n : Int) := by have := NL.out; omega
      have HR := Lib.hid (partsC_take t ls k hlt)
      have HX := Lib.hid (HL1.out.2 k hkv hlt)
      have HM := Lib.hid (HN.out _ (List.getElem_mem hlt))
      generalize ls[k] = l at *
      generalize vs[k] = x at *
      generalize partsC t (ls.take k) = y at *
      have C0 := Lib.hid (crcon_any wr t y x l HT.out HP.out HX.out HM.out)
      clear hc hb
      go_wp2_with (refine wpList_loadTab rfl _ rfl _ rfl _ HA1.out HT.out.1 ?_)
      refine C0.out.mono ?_
      rintro e w2 ⟨rfl, hb2⟩
      have HB2 := Lib.hid (HB.out.trans (hb2.mono (by have := HB.out.size; simp at this; omega)))
      clear hb2
      go_wp2_with fail
      go_roundw
      case rel => exact ⟨k + 1, by omega, by go_num, by rw [HR.out], HB2.out⟩
      case measure => simp [intOf]; omega
    · have e : k = ls.length := by omega
      have hkn : ¬ (k : Int) < (n : Int) := by have := NL.out; omega
      have HE : Hid (partsC t (ls.take k) = partsC t ls) := by rw [e, List.take_length]; exact rfl
      generalize partsC t (ls.take k) = y at *
      go_wp2_with fail
      go_ret
      exact ⟨ret_int (by rw [HE.out]), (below_new w _).trans (HB.out.mono (by omega))⟩

set_option maxHeartbeats 1000000 in
theorem crcparts_any (w : World) (v : Value) (vs : List Value) (ls : List (List UInt8)) (hv : Rowz w v vs) (hl : Byts w vs ls) (hlen : ∀ l ∈ ls, l.length ≤ 70368744177664) :
    Calls Tryd.prog 67 #[v] w (Word32 w (sumC ls.flatten)) := by
  have HV := Lib.hid hv
  have HL := Lib.hid hl
  have HN := Lib.hid hlen
  clear hv hl hlen
  have HF : Hid (sumC ls.flatten = partsC tabC ls) := (partsC_is tabC_tab ls).symm
  go_enter Tryd.func67, Tryd.ntmps67
  go_wp2_with fail
  refine (crctable_any _).mono ?_
  rintro e w1 ⟨rfl, hb1⟩
  go_wp2_with fail
  refine (crcthrough_any _ tabC _ vs ls tabC_tab (HV.out.below hb1) (HL.out.below hb1) HN.out).mono ?_
  rintro e w2 ⟨rfl, hb2⟩
  go_wp2_with fail
  go_ret
  exact ⟨ret_int (by rw [HF.out]), hb1.trans (hb2.mono hb1.size)⟩
end Go.Proofs.YtagchbpofoidmaaDoor
