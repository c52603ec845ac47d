/-
  xhash.stripes by its contract. Conditions: the bytes are fewer than 2^46.
-/
import Derived.Test.YtafpnckpeaggcaaArr
import Derived.Test.YtafpnckpeaggcaaRef1
import Derived.Test.YtafpnckpeaggcaaOrdT
namespace Go.Proofs.Ytafpnckpeaggcaa
open Go.RowKit

theorem acc_next (acc : List Nat) (l : List UInt8) (h : 32 ≤ l.length) : accF (l.length / 32) acc l = accF ((l.drop 32).length / 32) (accK acc l 4) (l.drop 32) := by
  rw [List.length_drop, show l.length / 32 = (l.length - 32) / 32 + 1 by omega, accF]
theorem wordR_k (l : List UInt8) (k : Nat) (hl : 32 ≤ l.length) (hk : k < 4) : wordR ((l.take 32).drop (8 * k)) 0 8 = (wordN ((l.drop (8 * k)).take 8), (l.take 32).drop (8 * (k + 1)), 0) := by
  have e : ((l.take 32).drop (8 * k)).take 8 = (l.drop (8 * k)).take 8 := by
    rw [List.drop_take, List.take_take, show min 8 (32 - 8 * k) = 8 by omega]
  have hlen : 8 ≤ ((l.take 32).drop (8 * k)).length := by rw [List.length_drop, List.length_take]; omega
  have e2 : takeB ((l.take 32).drop (8 * k)) 0 8 = ((l.drop (8 * k)).take 8, (l.take 32).drop (8 * (k + 1)), 0) := by
    unfold takeB
    rw [if_pos (by omega), List.drop_zero, Nat.zero_add, List.drop_drop, e, show 8 * k + 8 = 8 * (k + 1) by omega]
  unfold wordR
  rw [if_neg (by omega), if_pos (by omega), show Int.toNat 8 = 8 from rfl, e2]
theorem accK_succ (acc : List Nat) (l : List UInt8) (k : Nat) : (accK acc l k).set k (roundW ((accK acc l k).getD k 0) (wordN ((l.drop (8 * k)).take 8))) = accK acc l (k + 1) := by rw [accK]
theorem endAcc_is (acc : List Nat) : endAcc acc = mergeW (mergeW (mergeW (mergeW (addW (addW (addW (addW 0 (rotW (acc.getD 0 0) 1)) (rotW (acc.getD 1 0) 7)) (rotW (acc.getD 2 0) 12)) (rotW (acc.getD 3 0) 18)) (acc.getD 0 0)) (acc.getD 1 0)) (acc.getD 2 0)) (acc.getD 3 0) := by
  unfold endAcc
  simp only [mergeK, sumK, turnsK, List.getD_cons_zero, List.getD_cons_succ]

theorem turn_at (W : World) : (Instr.index 49 (.agg #[.int .i64 1, .int .i64 7, .int .i64 12, .int .i64 18]) (.int .i64 0)).run Try.prog W = .ok (.int .i64 1) W ∧
    (Instr.index 49 (.agg #[.int .i64 1, .int .i64 7, .int .i64 12, .int .i64 18]) (.int .i64 1)).run Try.prog W = .ok (.int .i64 7) W ∧
    (Instr.index 49 (.agg #[.int .i64 1, .int .i64 7, .int .i64 12, .int .i64 18]) (.int .i64 2)).run Try.prog W = .ok (.int .i64 12) W ∧
    (Instr.index 49 (.agg #[.int .i64 1, .int .i64 7, .int .i64 12, .int .i64 18]) (.int .i64 3)).run Try.prog W = .ok (.int .i64 18) W :=
  ⟨by kernel_rfl, by kernel_rfl, by kernel_rfl, by kernel_rfl⟩

def StrRel (w : World) (s : Nat) (l : List UInt8) (b : Value) (wr : World) : Prop :=
  ∃ (l' : List UInt8) (acc : List Nat), Byt wr b l' ∧ l'.length ≤ 70368744177664 ∧ acc.length = 4 ∧ AllW acc ∧ Arr wr w.heap.size acc ∧ accF (l'.length / 32) acc l' = accF (l.length / 32) (acc0 s) l ∧ Below w.heap.size w wr
def InRel (w : World) (ga g : Nat) (acc : List Nat) (l : List UInt8) (v2 : Value) (i : Value) (wr : World) : Prop :=
  ∃ k : Nat, k ≤ 4 ∧ i = .int .i64 (k : Int) ∧ Arr wr ga (accK acc l k) ∧ Rdr wr g ((l.take 32).drop (8 * k)) 0 ∧ Byt wr v2 (l.drop 32) ∧ Below w.heap.size w wr

set_option maxRecDepth 100000 in
set_option maxHeartbeats 4000000 in
theorem stripes_any (w : World) (s : Nat) (v : Value) (l : List UInt8) (hv : Byt w v l) (hs : s < 18446744073709551616) (hlen : l.length ≤ 70368744177664) :
    Calls Try.prog 30 #[.int .u64 (s : Int), v] w (Word64 w (stripesW s l)) := by
  have HV := Lib.hid hv
  have HA := Lib.hid (acc0_all s hs)
  have HL := Lib.hid hlen
  clear hv hs hlen
  go_enter Try.func30, Try.ntmps30
  go_wp2_with fail
  rw [w_a1, w_a2, w_a2, w_s1]
  go_loopw [1] (fun b wr => StrRel w s l b wr) (fun b _ => slen b)
  case atStart => exact ⟨l, acc0 s, HV.out.alloc _, HL.out, rfl, HA.out, heap_alloc_new w _, rfl, below_new w _⟩
  case round =>
    obtain ⟨l', acc, hb, hl', ha4, hall, harr, hacc, hbel⟩ := hrel
    obtain ⟨A, n, c, rfl, N, hnc, hcm⟩ := hb.form
    by_cases hlt : 32 ≤ l'.length
    · have hn8 : (32 : Int) ≤ (n : Int) := by have := N.out; omega
      have b1 := hb.upto (k := 32) (by omega)
      obtain ⟨A2, n2, c2, r2, b2, N2, l2, m2⟩ := hb.cutrun 27 elemByte sizeByte 32 (by omega) .i64
      have r2' : ∀ W, (Instr.slice 27 (.slice A n c) (some (.int .i64 32)) none none).run Try.prog W = .ok (.slice A2 n2 c2) W := r2
      clear r2
      have HH8 : Hid ((l'.take 32).length = 32) := by rw [List.length_take]; exact (show min 32 l'.length = 32 by omega)
      have X2 := Lib.hid (acc_next acc l' hlt)
      have HB1 := Lib.hid b1
      have HB2 := Lib.hid b2
      have HACC := Lib.hid hacc
      have HARR := Lib.hid harr
      have HALL := Lib.hid hall
      have HA4 := Lib.hid ha4
      have HBel := Lib.hid hbel
      have Hl' := Lib.hid hl'
      clear b1 b2 hacc hb hbel hl' harr hall ha4
      go_wp2_with fail
      refine (new_any _ _ (l'.take 32) HB1.out (by have := HH8.out; omega)).mono ?_
      rintro e w1 ⟨g, rfl, hg, hr1, hb1⟩
      have HR1 := Lib.hid hr1
      have HBel1 := Lib.hid (HBel.out.trans (hb1.mono HBel.out.size))
      have hgw : w.heap.size < g := Nat.lt_of_lt_of_le HARR.out.lt hg
      have HB2a := Lib.hid (HB2.out.below hb1)
      have HARR1 := Lib.hid (HARR.out.block (hb1.block _ HARR.out.lt))
      clear hr1 hb1 hg
      go_wp2_with fail
      go_loopw [27] (fun i wr => InRel w w.heap.size g acc l' (.slice A2 n2 c2) i wr) (fun i _ => 4 - (intOf i).toNat)
      case atStart => exact ⟨0, by omega, rfl, HARR1.out, HR1.out, HB2a.out, HBel1.out⟩
      case round =>
        obtain ⟨k, hk, rfl, harr, hrd, hby, hbel⟩ := hrel
        by_cases hk4 : k < 4
        · have hk4' : (k : Int) < 4 := by omega
          have hk0 : (0 : Int) ≤ (k : Int) := by omega
          have HC := Lib.hid (harr.cell k (by rw [accK_len, HA4.out]; exact hk4))
          have HARR2 := Lib.hid (show Arr wr.drew _ _ from harr)
          have HC := Lib.hid (show wr.drew.cell? _ = _ from HC.out)
          have HRD := Lib.hid (show Rdr wr.drew g _ 0 from hrd.below ((Below.refl _ _).drew))
          have HBY := Lib.hid (show Byt wr.drew _ _ from hby.drew)
          have HBE := Lib.hid hbel.drew
          have HW := Lib.hid (wordR_k l' k hlt hk4)
          have HAK := Lib.hid (accK_succ acc l' k)
          clear harr hrd hby hbel
          generalize (accK acc l' k).getD k 0 = ak at *
          generalize accK acc l' k = acck at *
          go_wp2_with fail
          refine wp_region_T (R := fun x y => x.grownBy y (some g)) (by kernel_rfl) (fun _ => grown_refl _ _) (fun h k => grown_trans h k) (by kernel_rfl) 8 rfl (by kernel_rfl) (by kernel_rfl) (fun d v c a w h => by cases d <;> exact h)
            [(0, false), (1, false), (2, false), (3, false), (4, false), (5, true), (6, true), (7, false)] rfl (by kernel_rfl) ?_
          simp only [sel, List.getElem?_toArray, List.getElem?_cons_succ, List.getElem?_cons_zero]
          iterate 3 (refine schT_take ?_ rfl ?_ ?_; rotate_left; (focus (intro u hu; go_simp <;> rfl)); simp only [Act.put, List.setIfInBounds_toArray, List.set_cons_zero, List.set_cons_succ])
          (refine schT_take ?_ rfl ?_ ?_; rotate_left; (focus (intro u hu; have hc : u.cell? ⟨w.heap.size, k, none⟩ = some (.int .u64 (ak : Int)) := (World.cell?_of_block (a := ⟨w.heap.size, k, none⟩) (hu.block w.heap.size HARR2.out.lt (by simp; omega))).trans HC.out; go_simp <;> rfl)); simp only [Act.put, List.setIfInBounds_toArray, List.set_cons_zero, List.set_cons_succ])
          (refine schT_take ?_ rfl ?_ ?_; rotate_left; (focus (intro u hu; go_simp <;> rfl)); simp only [Act.put, List.setIfInBounds_toArray, List.set_cons_zero, List.set_cons_succ])
          refine schT_call rfl ?_
          intro K hK
          go_simp
          refine (rword_is _ g 0 _ 8 HRD.out (by rw [List.length_drop, HH8.out]; omega)).mono ?_
          rw [HW.out]
          rintro e w2 ⟨rfl, hr2, hg2⟩
          go_wp2_with fail
          refine hK _ _ hg2 ?_
          clear hK K
          have HR2 := Lib.hid hr2
          have HG2 := Lib.hid hg2
          clear hr2 hg2
          refine schT_call rfl ?_
          intro K hK
          go_simp
          refine (round_any ak _ _).mono ?_
          rintro e w3 ⟨rfl, rfl⟩
          go_wp2_with fail
          refine hK _ _ (grown_refl _ _) ?_
          clear hK K
          (refine schT_take ?_ rfl ?_ ?_; rotate_left; (focus (intro u hu; go_simp <;> rfl)); simp only [Act.put, List.setIfInBounds_toArray, List.set_cons_zero, List.set_cons_succ])
          refine schT_nil ?_
          have HARR3 : Hid (Arr w2 w.heap.size acck) := HARR2.out.block (HG2.out.block w.heap.size HARR2.out.lt (by simp; omega))
          have hfz := HARR3.out.frozen k
          have hc3 : w2.cell? ⟨w.heap.size, k, none⟩ = some (.int .u64 (ak : Int)) := (World.cell?_of_block (a := ⟨w.heap.size, k, none⟩) (HG2.out.block w.heap.size HARR2.out.lt (by simp; omega))).trans HC.out
          refine schT_last rfl rfl ?_
          go_simp
          go_wp2_with fail
          have hb2 : Below w.heap.size w w2 := HBE.out.grown HG2.out HBE.out.size (by rintro k ⟨rfl⟩; omega)
          have HBY2 := Lib.hid (HBY.out.reader HRD.out HG2.out)
          go_roundw
          case rel => exact ⟨k + 1, by omega, by go_num, by rw [← HAK.out]; exact HARR3.out.set k _, HR2.out.arr HARR3.out (by omega) k _, HBY2.out.arr HARR3.out k _, hb2.setCell (by simp) _⟩
          case measure => simp [intOf]; omega
        · obtain rfl : k = 4 := by omega
          have HARR2 := Lib.hid harr
          have HBY := Lib.hid hby
          have HBE := Lib.hid hbel
          clear harr hrd hby hbel
          go_wp2_with fail
          go_roundw
          case rel => exact ⟨l'.drop 32, accK acc l' 4, HBY.out, by rw [List.length_drop]; have := Hl'.out; omega, by rw [accK_len]; exact HA4.out, accK_all HALL.out _ _, HARR2.out, by rw [← X2.out]; exact HACC.out, HBE.out⟩
          case measure => have := N2.out; simp only [slen]; omega
    · have hn8 : ¬ (32 : Int) ≤ (n : Int) := by have := N.out; omega
      rw [show l'.length / 32 = 0 by omega, accF] at hacc
      have hfin : stripesW s l = endAcc acc := by unfold stripesW; rw [← hacc]
      rw [endAcc_is] at hfin
      have c0 := harr.cell 0 (by omega)
      have c1 := harr.cell 1 (by omega)
      have c2 := harr.cell 2 (by omega)
      have c3 := harr.cell 3 (by omega)
      have A0 := Lib.hid (hall.getD 0)
      have A1 := Lib.hid (hall.getD 1)
      have A2 := Lib.hid (hall.getD 2)
      have A3 := Lib.hid (hall.getD 3)
      generalize acc.getD 0 0 = a0 at *
      generalize acc.getD 1 0 = a1 at *
      generalize acc.getD 2 0 = a2 at *
      generalize acc.getD 3 0 = a3 at *
      have HF := Lib.hid hfin
      have HBE := Lib.hid hbel
      clear hb hl' ha4 hall harr hacc hbel hfin
      have t0 := fun W => (turn_at W).1
      have t1 := fun W => (turn_at W).2.1
      have t2 := fun W => (turn_at W).2.2.1
      have t3 := fun W => (turn_at W).2.2.2
      go_wp2_with fail
      refine wp_loop_rounds 5 ?_
      rw [rounds_succ]
      go_wp2_with fail
      refine (rotl_any a0 1 _ A0.out (by omega)).mono ?_
      rintro e w5 ⟨rfl, rfl⟩
      go_wp2_with fail
      rw [w_add0]
      rw [rounds_succ]
      go_wp2_with fail
      refine (rotl_any a1 7 _ A1.out (by omega)).mono ?_
      rintro e w5 ⟨rfl, rfl⟩
      go_wp2_with fail
      rw [w_add]
      rw [rounds_succ]
      go_wp2_with fail
      refine (rotl_any a2 12 _ A2.out (by omega)).mono ?_
      rintro e w5 ⟨rfl, rfl⟩
      go_wp2_with fail
      rw [w_add]
      rw [rounds_succ]
      go_wp2_with fail
      refine (rotl_any a3 18 _ A3.out (by omega)).mono ?_
      rintro e w5 ⟨rfl, rfl⟩
      go_wp2_with fail
      rw [w_add]
      rw [rounds_succ]
      go_wp2_with fail
      generalize hsum : addW (addW (addW (addW 0 (rotW a0 1)) (rotW a1 7)) (rotW a2 12)) (rotW a3 18) = sm at *
      have HS : Hid (sm < 18446744073709551616) := by rw [← hsum]; exact addW_lt _ _
      clear hsum
      refine wp_loop_rounds 5 ?_
      rw [rounds_succ]
      go_wp2_with fail
      refine (merge_any _ a0 _ HS.out).mono ?_
      rintro e w5 ⟨rfl, rfl⟩
      go_wp2_with fail
      rw [rounds_succ]
      go_wp2_with fail
      refine (merge_any _ a1 _ (mergeW_lt _ _)).mono ?_
      rintro e w5 ⟨rfl, rfl⟩
      go_wp2_with fail
      rw [rounds_succ]
      go_wp2_with fail
      refine (merge_any _ a2 _ (mergeW_lt _ _)).mono ?_
      rintro e w5 ⟨rfl, rfl⟩
      go_wp2_with fail
      rw [rounds_succ]
      go_wp2_with fail
      refine (merge_any _ a3 _ (mergeW_lt _ _)).mono ?_
      rintro e w5 ⟨rfl, rfl⟩
      go_wp2_with fail
      rw [rounds_succ]
      go_wp2_with fail
      go_ret
      exact ⟨ret_int (by rw [HF.out]), HBE.out⟩
end Go.Proofs.Ytafpnckpeaggcaa
