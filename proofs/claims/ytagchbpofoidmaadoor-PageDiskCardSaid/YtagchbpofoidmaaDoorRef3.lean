/-
  The document's own table, steps and sums (tallymanref03) by their contracts: the same plain functions. Conditions: words are below 2^32.
-/
import Derived.Test.YtagchbpofoidmaaDoorOn
namespace Go.Proofs.YtagchbpofoidmaaDoor
open Go.RowKit
set_option maxRecDepth 100000

def RefTabRel (w : World) (b : Value) (wr : World) : Prop :=
  ∃ k : Nat, k ≤ 256 ∧ b = .int .i64 (k : Int) ∧ ATab wr (w.heap.size + 1) (tabTo k) ∧ ATab wr w.heap.size (tabTo 0) ∧ Below w.heap.size w wr

set_option maxRecDepth 100000 in
set_option maxHeartbeats 1000000 in
theorem reftable_any (w : World) : Calls Tryd.prog 81 #[] w (Tabled w tabC) := by
  have Z := tabZero
  rw [tabTo_none] at Z
  have A1 := ((ATab.new w (tabTo 0)).alloc (.cells (tabV (tabTo 0)) 101))
  have A2 := ATab.new (w.alloc (.cells (tabV (tabTo 0)) 101)) (tabTo 0)
  rw [show (w.alloc (.cells (tabV (tabTo 0)) 101)).heap.size = w.heap.size + 1 by simp] at A2
  have HA1 := Lib.hid A1
  have HA2 := Lib.hid A2
  clear A1 A2
  go_enter Tryd.func81, Tryd.ntmps81
  go_wp2_with fail
  go_loopw [2] (fun i wr => RefTabRel w i wr) (fun i _ => 256 - (intOf i).toNat)
  case atStart => exact ⟨0, by omega, rfl, HA2.out, HA1.out, (below_new w _).alloc (by simp) _⟩
  case round =>
    obtain ⟨k, hk, rfl, ha, hr, hbel⟩ := hrel
    clear Z HA1 HA2
    by_cases h : k = 256
    · subst h
      rw [tabTo_all] at ha
      have T0 := Lib.hid (tabTo_len 0 (by omega))
      have TC := Lib.hid tabC_tab.1
      generalize tabC = tc at *
      generalize tabTo 0 = t0 at *
      have HA := Lib.hid ha
      have HR := Lib.hid hr
      have HB := Lib.hid hbel
      clear ha hr hbel
      go_wp2_with (first
        | (refine wpList_loadTab rfl _ rfl _ rfl _ HA.out TC.out ?_)
        | (refine wpList_storeTab rfl _ _ rfl _ rfl _ rfl _ HR.out T0.out TC.out ?_; intro w2 h2 h3 h4 h5))
      exact ret_tab _ rfl rfl rfl h2 TC.out ⟨rfl, h3 _ _ HB.out (Nat.le_refl _)⟩
    · have h8 : (k : Int) < 256 := by omega
      have c1 := ha.cell k (by rw [tabTo_len k hk]; omega)
      have c2 := ha.frozen k
      have HA := Lib.hid (tabTo_set k (by omega) ▸ ha.set k (wordC k))
      have HR := Lib.hid hr
      have HB := Lib.hid hbel
      clear ha hr hbel
      generalize (tabTo k).getD k 0 = c0 at *
      go_wp2_with fail
      go_loop [3, 4] (fun s i => CWordRel k s i) (fun _ i => 8 - (intOf i).toNat)
      case atStart => exact ⟨0, by omega, rfl, rfl⟩
      case round =>
        obtain ⟨m, hm, rfl, rfl⟩ := hrel
        have HY := Lib.hid (iterC_lt m (w := k) (by omega))
        have HS := Lib.hid (iterC_snoc m k)
        generalize hy : iterC m k = y at *
        have HP := Lib.hid (c_poly y HY.out)
        by_cases h8 : m = 8
        · subst h8
          have HE : Hid (y = wordC k) := hy.symm
          clear hy
          go_wp2_with fail
          go_roundw
          case rel => exact ⟨k + 1, by omega, by go_num, by rw [HE.out]; exact HA.out, HR.out.block (Below.heap_setCell _ _ _ _ (by simp only; omega)), HB.out.setCell (by simp only; omega) _⟩
          case measure => simp [intOf]; omega
        · have h8' : (m : Int) < 8 := by omega
          rcases Nat.mod_two_eq_zero_or_one y with ho | ho
          · have ht : bitC y = y / 2 := by unfold bitC; rw [if_neg (by omega)]
            rw [ht] at HS
            have HA : (y : Int) % 2 = 0 := by omega
            go_wp2_with fail
            go_round
            case rel => exact ⟨m + 1, by omega, by go_num, by rw [HS.out]; go_num⟩
            case measure => simp [intOf]; omega
          · have ht : bitC y = y / 2 ^^^ 2197175160 := by unfold bitC; rw [if_pos ho]
            rw [ht] at HS
            have HA : (y : Int) % 2 = 1 := by omega
            go_wp2_with fail
            go_round
            case rel => exact ⟨m + 1, by omega, by go_num, by rw [HS.out, HP.out]⟩
            case measure => simp [intOf]; omega

set_option maxRecDepth 100000 in
set_option maxHeartbeats 1000000 in
theorem refon_any (w : World) (t : List Nat) (s : Nat) (v : Value) (l : List UInt8) (ht : Tab t) (hs : s < 4294967296) (hv : Byt w v l) (hlen : l.length ≤ 70368744177664) :
    Calls Tryd.prog 80 #[.agg (tabV t), .int .u32 (s : Int), v] w (Word32 w (onC t s l)) := by
  have HV := Lib.hid (hv.alloc (.cells (tabV t) 101))
  obtain ⟨A, n, c, rfl, N, hnc, hcm⟩ := hv.form
  have HA := Lib.hid (ATab.new w t)
  have HT := Lib.hid ht
  have HS := Lib.hid hs
  have hl : n ≤ 70368744177664 := by have := N.out; omega
  clear hv ht hs hlen
  have hu := u32_plain
  have C1 := c_not s HS.out
  have HN := Lib.hid (notC_lt s)
  have HF : Hid (onC t s l = notC (runC t (notC s) l)) := rfl
  generalize notC s = s1 at *
  go_enter Tryd.func80, Tryd.ntmps80
  go_wp2_with fail
  go_loop [7, 8] (fun v i => RunRel t s1 l v i) (fun _ i => n - (intOf i).toNat)
  case atStart => exact ⟨0, by omega, rfl, rfl⟩
  case round =>
    obtain ⟨k, hk, rfl, rfl⟩ := hrel
    have HY := Lib.hid (runC_lt HT.out (l.take k) s1 HN.out)
    by_cases hlt : k < l.length
    · obtain ⟨b, off, rfl, hb, hc⟩ := HV.out.at hlt
      have hck := hc k hlt
      have hkn : (k : Int) < (n : Int) := by have := N.out; omega
      have HR := Lib.hid (runC_take t s1 l k hlt)
      generalize l[k] = x at *
      generalize runC t s1 (l.take k) = y at *
      have X1 := c_low y x
      have hj : y % 256 ^^^ x.toNat < 256 := xor8_lt (Nat.mod_lt _ (by omega)) (byte_lt x)
      have HC := HA.out.cell (y % 256 ^^^ x.toNat) (by rw [HT.out.1]; exact hj)
      have HZ := Lib.hid (c_step y (t.getD (y % 256 ^^^ x.toNat) 0) HY.out (HT.out.getD _))
      have HG : Hid (stepC t y x = t.getD (y % 256 ^^^ x.toNat) 0 ^^^ y / 256) := rfl
      generalize y % 256 ^^^ x.toNat = j at *
      generalize t.getD j 0 = z at *
      have hj' : (j : Int) < 256 := by omega
      clear hc hb
      go_wp2_with fail
      go_round
      case rel => exact ⟨k + 1, by omega, by go_num, by rw [HR.out, HG.out, HZ.out]⟩
      case measure => simp [intOf]; omega
    · have e : k = l.length := by omega
      have hkn : ¬ (k : Int) < (n : Int) := by have := N.out; omega
      have HE : Hid (runC t s1 (l.take k) = runC t s1 l) := by rw [e, List.take_length]; exact rfl
      generalize runC t s1 (l.take k) = y at *
      have C2 := c_not y HY.out
      go_wp2_with fail
      go_ret
      exact ⟨ret_int (by rw [HF.out, HE.out]), below_new w _⟩

set_option maxHeartbeats 1000000 in
theorem refsum_any (w : World) (v : Value) (l : List UInt8) (hv : Byt w v l) (hlen : l.length ≤ 70368744177664) :
    Calls Tryd.prog 73 #[v] w (Word32 w (sumC l)) := by
  have HV := Lib.hid hv
  have HL := Lib.hid hlen
  clear hv hlen
  go_enter Tryd.func73, Tryd.ntmps73
  go_wp2_with fail
  refine (reftable_any _).mono ?_
  rintro e w1 ⟨rfl, hb1⟩
  go_wp2_with fail
  refine (refon_any _ tabC 0 _ l tabC_tab (by omega) (HV.out.below hb1) HL.out).mono ?_
  rintro e w2 ⟨rfl, hb2⟩
  go_wp2_with fail
  go_ret
  exact ⟨rfl, hb1.trans (hb2.mono hb1.size)⟩
end Go.Proofs.YtagchbpofoidmaaDoor
