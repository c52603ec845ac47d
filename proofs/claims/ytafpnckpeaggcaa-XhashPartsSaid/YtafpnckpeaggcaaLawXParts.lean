/-
  The statement XhashParts: the hash of few bytes goes by its steps: with 32 bytes or more four rounds at a time. Conditions: none.
-/
import Derived.Test.YtafpnckpeaggcaaLives2
import Derived.Test.YtafpnckpeaggcaaHone
import Derived.Test.YtafpnckpeaggcaaNum2
import Derived.Test.YtafpnckpeaggcaaOpen
namespace Go.Proofs.Ytafpnckpeaggcaa.xhashParts
open Go.ChangeShapes Go.WideShapes Go.ChangeAt Go.RowKit
set_option linter.unusedVariables false

/-- The first k words' bytes. -/
def rawK (wl : List Nat) (k : Nat) : List UInt8 := (wl.take k).flatMap (wordB 8)
/-- The accumulators behind k words. -/
def accP (acc wl : List Nat) : Nat → List Nat
  | 0 => acc
  | k + 1 => (accP acc wl k).set k (roundW ((accP acc wl k).getD k 0) (wl.getD k 0))
theorem accP_len (acc wl : List Nat) (k : Nat) : (accP acc wl k).length = acc.length := by
  induction k with
  | zero => rfl
  | succ k ih => simp [accP, ih]
theorem accP_all {acc : List Nat} (h : AllW acc) (wl : List Nat) (k : Nat) : AllW (accP acc wl k) := by
  induction k with
  | zero => exact h
  | succ k ih => exact ih.set k _ (roundW_lt _ _)
theorem accP_succ (acc wl : List Nat) (k : Nat) : (accP acc wl k).set k (roundW ((accP acc wl k).getD k 0) (wl.getD k 0)) = accP acc wl (k + 1) := by rw [accP]
theorem rawK_len (wl : List Nat) (k : Nat) (hk : k ≤ wl.length) : (rawK wl k).length = 8 * k := by
  induction k with
  | zero => simp [rawK]
  | succ k ih =>
    have := ih (by omega)
    unfold rawK at *
    rw [List.take_succ_eq_append_getElem (by omega), List.flatMap_append, List.length_append, this]
    simp only [List.flatMap_cons, List.flatMap_nil, List.append_nil, wordB_len]
    omega
theorem rawK_snoc (wl : List Nat) (k : Nat) (hk : k < wl.length) : rawK wl k ++ wordB 8 (wl.getD k 0) = rawK wl (k + 1) := by
  unfold rawK
  rw [List.take_succ_eq_append_getElem hk, List.flatMap_append, List.getD_eq_getElem?_getD, List.getElem?_eq_getElem hk, Option.getD_some]
  simp only [List.flatMap_cons, List.flatMap_nil, List.append_nil]
theorem word_at (a b c d : Nat) (ha : a < 18446744073709551616) (hb : b < 18446744073709551616) (hc : c < 18446744073709551616) (hd : d < 18446744073709551616) :
    ∀ k, k < 4 → wordN (((rawK [a, b, c, d] 4).drop (8 * k)).take 8) = [a, b, c, d].getD k 0 := by
  have e8 : (256 : Nat) ^ 8 = 18446744073709551616 := by decide +kernel
  have hw : ∀ x, x < 18446744073709551616 → wordN (wordB 8 x) = x := fun x hx => by rw [wordN_word, e8, Nat.mod_eq_of_lt hx]
  have hr : rawK [a, b, c, d] 4 = wordB 8 a ++ (wordB 8 b ++ (wordB 8 c ++ wordB 8 d)) := by
    unfold rawK
    simp only [List.take_succ_cons, List.take_zero, List.flatMap_cons, List.flatMap_nil, List.append_nil]
  have h0 : ∀ (x : Nat) (r : List UInt8), (wordB 8 x ++ r).take 8 = wordB 8 x := fun x r => by rw [List.take_append_of_le_length (by rw [wordB_len]; omega), List.take_of_length_le (by rw [wordB_len]; omega)]
  have h1 : ∀ (x : Nat) (r : List UInt8), (wordB 8 x ++ r).drop 8 = r := fun x r => by rw [List.drop_append_of_le_length (by rw [wordB_len]; omega), List.drop_eq_nil_of_le (by rw [wordB_len]; omega), List.nil_append]
  intro k hk
  rw [hr]
  match k, hk with
  | 0, _ => rw [Nat.mul_zero, List.drop_zero, h0, hw a ha]; rfl
  | 1, _ => rw [Nat.mul_one, h1, h0, hw b hb]; rfl
  | 2, _ => rw [show 8 * 2 = 8 + 8 from rfl, ← List.drop_drop, h1, h1, h0, hw c hc]; rfl
  | 3, _ =>
    have e := h0 d []
    rw [List.append_nil] at e
    rw [show 8 * 3 = 8 + (8 + 8) from rfl, ← List.drop_drop, h1, ← List.drop_drop, h1, h1, e, hw d hd]; rfl
theorem acc_same (s : Nat) (wl : List Nat) (l : List UInt8) (h : ∀ k, k < 4 → wordN ((l.drop (8 * k)).take 8) = wl.getD k 0) : ∀ k, k ≤ 4 → accK (acc0 s) l k = accP (acc0 s) wl k := by
  intro k
  induction k with
  | zero => intro _; rfl
  | succ k ih =>
    intro hk
    rw [accK, accP, ih (by omega), h k (by omega)]
theorem addW_none (x : Nat) (hx : x < 18446744073709551616) : addW x 0 = x := by unfold addW; rw [Nat.add_zero, Nat.mod_eq_of_lt hx]
theorem sum_32 (s : Nat) (wl : List Nat) (l : List UInt8) (hl : l.length = 32) (h : ∀ k, k < 4 → wordN ((l.drop (8 * k)).take 8) = wl.getD k 0) : sumW s l = avalW (addW (endAcc (accP (acc0 s) wl 4)) 32) := by
  unfold sumW headW stripesW restW
  rw [if_pos (by omega), hl]
  simp only [Nat.reduceDiv, Nat.mul_one]
  rw [List.drop_eq_nil_of_le (by omega)]
  simp only [List.length_nil, Nat.zero_div, Nat.mul_zero, List.drop_zero, rest8, accF]
  unfold rest4
  rw [if_neg (by simp), rest1_nil, acc_same s wl l h 4 (by omega)]
theorem sum_0 (s : Nat) : sumW s [] = avalW (addW s xp5) := by
  unfold sumW headW restW
  rw [if_neg (by simp)]
  simp only [List.length_nil, Nat.zero_div, Nat.mul_zero, List.drop_zero, rest8]
  unfold rest4
  rw [if_neg (by simp), rest1_nil, addW_none _ (addW_lt _ _)]
theorem addW_zero' (x : Nat) (hx : x < 18446744073709551616) : addW 0 x = x := by unfold addW; rw [Nat.zero_add, Nat.mod_eq_of_lt hx]

def PRel (w : World) (gw gc s : Nat) (wl : List Nat) (raw i : Value) (wr : World) : Prop :=
  ∃ k : Nat, k ≤ 4 ∧ i = .int .i64 (k : Int) ∧ Byt wr raw (rawK wl k) ∧ Arr wr gw wl ∧ Arr wr gc (accP (acc0 s) wl k) ∧ Below w.heap.size w wr

set_option maxRecDepth 100000 in
set_option maxHeartbeats 8000000 in
theorem walk (w : World) (s a b c d : Nat) (hs : s < 18446744073709551616) (ha : a < 18446744073709551616) (hb : b < 18446744073709551616) (hc : c < 18446744073709551616) (hd : d < 18446744073709551616) :
    Calls Try.prog 7 #[.int .u64 (s : Int), .int .u64 (a : Int), .int .u64 (b : Int), .int .u64 (c : Int), .int .u64 (d : Int)] w fun e w' => e = .returned (.bool true) ∧ Below w.heap.size w w' := by
  have HW : Hid (AllW [a, b, c, d]) := by
    intro x hx
    simp only [List.mem_cons, List.not_mem_nil, or_false] at hx
    rcases hx with h | h | h | h <;> rw [h] <;> assumption
  have HA := Lib.hid (acc0_all s hs)
  have HSUM := Lib.hid (sum_32 s [a, b, c, d] (rawK [a, b, c, d] 4) (rawK_len _ 4 (by simp)) (word_at a b c d ha hb hc hd))
  have S1 := Lib.hid (fun w v hv => sum_any w s v (rawK [a, b, c, d] 4) hv hs (by rw [rawK_len _ 4 (by simp)]; omega))
  have S0 := Lib.hid (fun w => sum_any w s (.slice none 0 0) [] (Byt.nil _) hs (by simp))
  rw [sum_0] at S0
  have V0 := Lib.hid (fun w => aval_any (addW s xp5) w (addW_lt _ _))
  rw [HSUM.out] at S1
  clear hs ha hb hc hd HSUM
  go_enter Try.func7, Try.ntmps7
  go_wp2_with fail
  refine (lives2_any _).mono ?_
  rintro e w1 ⟨rfl, hb1⟩
  go_wp2_with fail
  rw [w_a1, w_a2, w_a2, w_s1]
  have hB : Below w.heap.size w ((w1.alloc (.cells #[.int .u64 (a : Int), .int .u64 (b : Int), .int .u64 (c : Int), .int .u64 (d : Int)] 39)).alloc (.cells #[.int .u64 (addW (addW s xp1) xp2 : Int), .int .u64 (addW s xp2 : Int), .int .u64 (s : Int), .int .u64 (subW s xp1 : Int)] 39)) := (hb1.alloc hb1.size _).alloc (by have := hb1.size; simp; omega) _
  have HG : Hid (w.heap.size ≤ w1.heap.size) := hb1.size
  have HB := Lib.hid hB
  have hne : w1.heap.size ≠ w1.heap.size + 1 := by omega
  clear hB hb1
  go_loopw [15, 16] (fun raw i wr => PRel w w1.heap.size (w1.heap.size + 1) s [a, b, c, d] raw i wr) (fun _ i _ => 4 - (intOf i).toNat)
  case atStart =>
    have h1 : Arr (w1.alloc (.cells #[.int .u64 (a : Int), .int .u64 (b : Int), .int .u64 (c : Int), .int .u64 (d : Int)] 39)) w1.heap.size [a, b, c, d] := heap_alloc_new w1 _
    refine ⟨0, by omega, rfl, Byt.nil _, h1.block ((below_new _ _).block _ h1.lt), ?_, HB.out⟩
    have h2 := heap_alloc_new (w1.alloc (.cells #[.int .u64 (a : Int), .int .u64 (b : Int), .int .u64 (c : Int), .int .u64 (d : Int)] 39)) (.cells #[.int .u64 (addW (addW s xp1) xp2 : Int), .int .u64 (addW s xp2 : Int), .int .u64 (s : Int), .int .u64 (subW s xp1 : Int)] 39)
    rw [show (w1.alloc (.cells #[.int .u64 (a : Int), .int .u64 (b : Int), .int .u64 (c : Int), .int .u64 (d : Int)] 39)).heap.size = w1.heap.size + 1 from by simp] at h2
    exact h2
  case round =>
    obtain ⟨k, hk, rfl, hby, harw, harc, hbel⟩ := hrel
    by_cases hk4 : k < 4
    · have hk4' : (k : Int) < 4 := by omega
      have hk0 : (0 : Int) ≤ (k : Int) := by omega
      have hcw := harw.cell k (by simpa using hk4)
      have HCC := Lib.hid (harc.cell k (by rw [accP_len]; exact hk4))
      have HAK := Lib.hid (accP_succ (acc0 s) [a, b, c, d] k)
      have HRK := Lib.hid (rawK_snoc [a, b, c, d] k (by simpa using hk4))
      have HWK := Lib.hid (HW.out.getD k)
      have HLK : Hid ((rawK [a, b, c, d] k).length ≤ 32) := by rw [rawK_len _ k (by simpa using hk)]; exact (show 8 * k ≤ 32 by omega)
      generalize hwk : [a, b, c, d].getD k 0 = wk at *
      generalize (accP (acc0 s) [a, b, c, d] k).getD k 0 = ak at *
      have HARW := Lib.hid harw
      have HARC := Lib.hid harc
      have HBY := Lib.hid hby
      have HBE := Lib.hid hbel
      clear hby harw harc hbel hwk
      go_wp2_with fail
      refine (word_is _ _ _ wk 8 HBY.out HWK.out (by omega) (by have := HLK.out; omega)).mono ?_
      rintro e w2 ⟨v2, rfl, ho2, hb2⟩
      have HARW2 := Lib.hid (show Arr w2.drew _ _ from HARW.out.block (hb2.block _ HARW.out.lt))
      have HARC2 := Lib.hid (show Arr w2.drew _ _ from HARC.out.block (hb2.block _ HARC.out.lt))
      have HC1 := Lib.hid (show w2.drew.cell? ⟨w1.heap.size + 1, k, none⟩ = some (.int .u64 (ak : Int)) from (World.cell?_of_block (a := ⟨w1.heap.size + 1, k, none⟩) (hb2.block _ HARC.out.lt)).trans HCC.out)
      have HC2 := Lib.hid (show w2.drew.cell? ⟨w1.heap.size, k, none⟩ = some (.int .u64 (wk : Int)) from (World.cell?_of_block (a := ⟨w1.heap.size, k, none⟩) (hb2.block _ HARW.out.lt)).trans hcw)
      have HBY2 := Lib.hid (show Byt w2.drew v2 _ from ho2.byt.drew)
      have HBE2 := Lib.hid (HBE.out.trans (hb2.mono HBE.out.size)).drew
      clear ho2 hb2 hcw
      go_wp2_with fail
      refine wp_region_T (R := fun x y => x = y) (by kernel_rfl) (fun _ => rfl) (fun h k => h.trans k) (by kernel_rfl) 9 rfl (by kernel_rfl) (by kernel_rfl) (fun d v c a w h => by cases d <;> exact h)
        [(0, false), (1, false), (2, false), (3, false), (4, false), (5, false), (6, false), (7, true), (8, false)] rfl (by kernel_rfl) ?_
      simp only [sel, List.getElem?_toArray, List.getElem?_cons_succ, List.getElem?_cons_zero]
      generalize w2.drew = wd at *
      iterate 3 (refine schT_take ?_ rfl ?_ ?_; rotate_left; (focus (intro u hu; go_simp <;> rfl)); simp only [Act.put, List.setIfInBounds_toArray, List.set_cons_zero, List.set_cons_succ])
      (refine schT_take ?_ rfl ?_ ?_; rotate_left; (focus (intro u hu; have hc := hu ▸ HC1.out; clear hu; go_simp <;> rfl)); simp only [Act.put, List.setIfInBounds_toArray, List.set_cons_zero, List.set_cons_succ])
      iterate 2 (refine schT_take ?_ rfl ?_ ?_; rotate_left; (focus (intro u hu; go_simp <;> rfl)); simp only [Act.put, List.setIfInBounds_toArray, List.set_cons_zero, List.set_cons_succ])
      (refine schT_take ?_ rfl ?_ ?_; rotate_left; (focus (intro u hu; have hc := hu ▸ HC2.out; clear hu; go_simp <;> rfl)); simp only [Act.put, List.setIfInBounds_toArray, List.set_cons_zero, List.set_cons_succ])
      refine schT_call rfl ?_
      intro K hK
      go_simp
      refine (round_any ak wk _).mono ?_
      rintro e w3 ⟨rfl, rfl⟩
      go_wp2_with fail
      refine hK _ _ rfl ?_
      clear hK K
      (refine schT_take ?_ rfl ?_ ?_; rotate_left; (focus (intro u hu; go_simp <;> rfl)); simp only [Act.put, List.setIfInBounds_toArray, List.set_cons_zero, List.set_cons_succ])
      refine schT_nil ?_
      have hfz := HARC2.out.frozen k
      have hc3 := HC1.out
      refine schT_last rfl rfl ?_
      go_simp
      go_wp2_with fail
      go_roundw
      case rel => exact ⟨k + 1, by omega, by go_num, by rw [← HRK.out]; exact HBY2.out.arr HARC2.out k _, HARW2.out.block (Below.heap_setCell _ _ _ _ (by simp)), by rw [← HAK.out]; exact HARC2.out.set k _, HBE2.out.setCell (by have := HG.out; simp; omega) _⟩
      case measure => simp [intOf]; omega
    · obtain rfl : k = 4 := by omega
      have hall := accP_all HA.out [a, b, c, d] 4
      have hl4 : (accP (acc0 s) [a, b, c, d] 4).length = 4 := by rw [accP_len]; rfl
      have hend := endAcc_is (accP (acc0 s) [a, b, c, d] 4)
      generalize accP (acc0 s) [a, b, c, d] 4 = acc at *
      have C0 := Lib.hid (show wr.drew.cell? _ = _ from harc.cell 0 (by omega))
      have C1 := Lib.hid (show wr.drew.cell? _ = _ from harc.cell 1 (by omega))
      have C2 := Lib.hid (show wr.drew.cell? _ = _ from harc.cell 2 (by omega))
      have C3 := Lib.hid (show wr.drew.cell? _ = _ from harc.cell 3 (by omega))
      have A0 := Lib.hid (hall.getD 0)
      have A1 := Lib.hid (hall.getD 1)
      have A2 := Lib.hid (hall.getD 2)
      have A3 := Lib.hid (hall.getD 3)
      rw [addW_zero' _ (rotW_lt _ 1 (hall.getD 0))] at hend
      rw [hend] at S1
      generalize acc.getD 0 0 = a0 at *
      generalize acc.getD 1 0 = a1 at *
      generalize acc.getD 2 0 = a2 at *
      generalize acc.getD 3 0 = a3 at *
      have HBY := Lib.hid (show Byt wr.drew _ _ from hby.drew)
      have HBE := Lib.hid hbel.drew
      clear hby harw harc hbel hend hall hl4
      go_wp2_with fail
      refine wp_region_R (R := fun x y => x = y) (by kernel_rfl) (fun _ => rfl) (fun h k => h.trans k) (by kernel_rfl) (fun d v c a w h => by cases d <;> exact h)
        [(0, false), (1, false), (2, false), (4, false), (5, false), (6, false), (9, false), (10, false), (11, false), (14, false), (15, false), (16, false), (3, true), (7, true), (8, false), (12, true), (13, false), (17, true), (18, false), (19, false)] rfl (by kernel_rfl) (by kernel_rfl) ?_
      simp only [sel, List.getElem?_toArray, List.getElem?_cons_succ, List.getElem?_cons_zero]
      generalize wr.drew = wd at *
      iterate 2 (refine sch_take ?_ rfl ?_ ?_; rotate_left; (focus (intro u hu; go_simp <;> rfl)); simp only [Act.put, List.setIfInBounds_toArray, List.set_cons_zero, List.set_cons_succ])
      (refine sch_take ?_ rfl ?_ ?_; rotate_left; (focus (intro u hu; have hc := hu ▸ C0.out; clear hu; go_simp <;> rfl)); simp only [Act.put, List.setIfInBounds_toArray, List.set_cons_zero, List.set_cons_succ])
      iterate 2 (refine sch_take ?_ rfl ?_ ?_; rotate_left; (focus (intro u hu; go_simp <;> rfl)); simp only [Act.put, List.setIfInBounds_toArray, List.set_cons_zero, List.set_cons_succ])
      (refine sch_take ?_ rfl ?_ ?_; rotate_left; (focus (intro u hu; have hc := hu ▸ C1.out; clear hu; go_simp <;> rfl)); simp only [Act.put, List.setIfInBounds_toArray, List.set_cons_zero, List.set_cons_succ])
      iterate 2 (refine sch_take ?_ rfl ?_ ?_; rotate_left; (focus (intro u hu; go_simp <;> rfl)); simp only [Act.put, List.setIfInBounds_toArray, List.set_cons_zero, List.set_cons_succ])
      (refine sch_take ?_ rfl ?_ ?_; rotate_left; (focus (intro u hu; have hc := hu ▸ C2.out; clear hu; go_simp <;> rfl)); simp only [Act.put, List.setIfInBounds_toArray, List.set_cons_zero, List.set_cons_succ])
      iterate 2 (refine sch_take ?_ rfl ?_ ?_; rotate_left; (focus (intro u hu; go_simp <;> rfl)); simp only [Act.put, List.setIfInBounds_toArray, List.set_cons_zero, List.set_cons_succ])
      (refine sch_take ?_ rfl ?_ ?_; rotate_left; (focus (intro u hu; have hc := hu ▸ C3.out; clear hu; go_simp <;> rfl)); simp only [Act.put, List.setIfInBounds_toArray, List.set_cons_zero, List.set_cons_succ])
      refine sch_call rfl ?_
      intro K hK
      go_simp
      refine (lawrot_any a0 1 _ A0.out (by omega)).mono ?_
      rintro e w2 ⟨rfl, rfl⟩
      go_wp2_with fail
      refine hK _ _ rfl ?_
      clear hK K
      refine sch_call rfl ?_
      intro K hK
      go_simp
      refine (lawrot_any a1 7 _ A1.out (by omega)).mono ?_
      rintro e w2 ⟨rfl, rfl⟩
      go_wp2_with fail
      refine hK _ _ rfl ?_
      clear hK K
      (refine sch_take ?_ rfl ?_ ?_; rotate_left; (focus (intro u hu; go_simp <;> rfl)); simp only [Act.put, List.setIfInBounds_toArray, List.set_cons_zero, List.set_cons_succ])
      refine sch_call rfl ?_
      intro K hK
      go_simp
      refine (lawrot_any a2 12 _ A2.out (by omega)).mono ?_
      rintro e w2 ⟨rfl, rfl⟩
      go_wp2_with fail
      refine hK _ _ rfl ?_
      clear hK K
      (refine sch_take ?_ rfl ?_ ?_; rotate_left; (focus (intro u hu; go_simp <;> rfl)); simp only [Act.put, List.setIfInBounds_toArray, List.set_cons_zero, List.set_cons_succ])
      refine sch_call rfl ?_
      intro K hK
      go_simp
      refine (lawrot_any a3 18 _ A3.out (by omega)).mono ?_
      rintro e w2 ⟨rfl, rfl⟩
      go_wp2_with fail
      refine hK _ _ rfl ?_
      clear hK K
      (refine sch_take ?_ rfl ?_ ?_; rotate_left; (focus (intro u hu; go_simp <;> rfl)); simp only [Act.put, List.setIfInBounds_toArray, List.set_cons_zero, List.set_cons_succ])
      (refine sch_take ?_ rfl ?_ ?_; rotate_left; (focus (intro u hu; go_simp <;> rfl)); simp only [Act.put, List.setIfInBounds_toArray, List.set_cons_zero, List.set_cons_succ])
      refine sch_nil ?_
      rw [w_add, w_add, w_add]
      have hc0 := C0.out
      have hc1 := C1.out
      have hc2 := C2.out
      have hc3 := C3.out
      generalize hsum : addW (addW (addW (rotW a0 1) (rotW a1 7)) (rotW a2 12)) (rotW a3 18) = sm at *
      have HS : Hid (sm < 18446744073709551616) := by rw [← hsum]; exact addW_lt _ _
      clear hsum
      go_wp2_with fail
      refine wp_loop_rounds 5 ?_
      rw [rounds_succ]
      go_wp2_with fail
      refine (merge_any _ a0 _ HS.out).mono ?_
      rintro e w5 ⟨rfl, rfl⟩
      go_wp2_with fail
      rw [rounds_succ]
      go_wp2_with fail
      refine (merge_any _ a1 _ (mergeW_lt _ _)).mono ?_
      rintro e w5 ⟨rfl, rfl⟩
      go_wp2_with fail
      rw [rounds_succ]
      go_wp2_with fail
      refine (merge_any _ a2 _ (mergeW_lt _ _)).mono ?_
      rintro e w5 ⟨rfl, rfl⟩
      go_wp2_with fail
      rw [rounds_succ]
      go_wp2_with fail
      refine (merge_any _ a3 _ (mergeW_lt _ _)).mono ?_
      rintro e w5 ⟨rfl, rfl⟩
      go_wp2_with fail
      rw [rounds_succ]
      clear hc0 hc1 hc2 hc3
      generalize mergeW (mergeW (mergeW (mergeW sm a0) a1) a2) a3 = hh at *
      go_wp2_with fail
      refine (S1.out _ _ HBY.out).mono ?_
      rintro e w6 ⟨rfl, hb6⟩
      have hw6 := HBE.out.trans (hb6.mono HBE.out.size)
      clear hb6
      go_wp2_with fail
      rw [show IntKind.u64.wrap ((hh : Int) + 32) = (addW hh 32 : Int) from w_add hh 32]
      refine (aval_any _ _ (addW_lt _ _)).mono ?_
      rintro e w7 ⟨rfl, rfl⟩
      go_wp2_with fail
      refine (S0.out _).mono ?_
      rintro e w8 ⟨rfl, hb8⟩
      have hw8 := hw6.trans (hb8.mono hw6.size)
      clear hb8 hw6
      go_wp2_with fail
      rw [w_a5]
      refine (V0.out _).mono ?_
      rintro e w9 ⟨rfl, rfl⟩
      go_wp2_with fail
      go_ret
      exact ⟨rfl, hw8⟩

set_option maxRecDepth 100000 in
theorem lifted (os : Os) (started : os.Started) (H : Type) (enc : TypeId × Value → H) :
    ReturnsInHanded {} Try.checked os 7 .any (Rows.xhashPartsSpec.pre6 enc Try.prog Try.f7 Rows.xhashPartsRow.domain false) (Rows.xhashPartsSpec.post enc Try.prog Try.f7 false true false false) := by
  refine returnsInHanded_of_change (C := Try.checked) ownKnobs started (by kernel_rfl) Try.func7
    (ChangeSpec.witness6 (enc := enc) (C := Try.checked) false ⟨#[], #[.int .u64 0, .int .u64 0, .int .u64 0, .int .u64 0, .int .u64 0], []⟩ 8 (by kernel_rfl) (by kernel_rfl) (by kernel_rfl) (by kernel_rfl)) ?_
  intro W base args ds gs before hval0 hW hcnd _
  have hval : ∀ (j : Nat) t v, Try.f7.params[j]? = some t → args[j]? = some v → Value.okWide Try.prog W .any base t v := hval0
  have hW' := hW
  obtain ⟨p, q, hA0, hV, rfl, hfz, hnd⟩ := hW
  have hA : DataW.TrodAll enc Try.prog W 0 (fun _ => true) true Try.f7.params.toList args.toList ds p := hA0
  rw [Try.params7] at hA hval
  obtain ⟨v0, vs0, d0, ds0, p0, q0, hargs, rfl, rfl, h0, r0⟩ := trodAll_cons hA
  obtain ⟨v1, vs1, d1, ds1, p1, q1, rfl, rfl, rfl, h1, r1⟩ := trodAll_cons r0
  obtain ⟨v2, vs2, d2, ds2, p2, q2, rfl, rfl, rfl, h2, r2⟩ := trodAll_cons r1
  obtain ⟨v3, vs3, d3, ds3, p3, q3, rfl, rfl, rfl, h3, r3⟩ := trodAll_cons r2
  obtain ⟨v4, vs4, d4, ds4, p4, q4, rfl, rfl, rfl, h4, r4⟩ := trodAll_cons r3
  obtain ⟨rfl, rfl, rfl⟩ := trodAll_nil r4
  obtain rfl : args = #[v0, v1, v2, v3, v4] := by cases args; simp_all
  obtain ⟨rfl, rfl⟩ := trodVars_none hV
  obtain ⟨a0, rfl, rfl, rfl, w0⟩ := open_int Try.underlying23 (hval 0 23 v0 rfl rfl) h0
  obtain ⟨n0, rfl, b0⟩ := open_u64 w0
  obtain ⟨a1, rfl, rfl, rfl, w1⟩ := open_int Try.underlying23 (hval 1 23 v1 rfl rfl) h1
  obtain ⟨n1, rfl, b1⟩ := open_u64 w1
  obtain ⟨a2, rfl, rfl, rfl, w2⟩ := open_int Try.underlying23 (hval 2 23 v2 rfl rfl) h2
  obtain ⟨n2, rfl, b2⟩ := open_u64 w2
  obtain ⟨a3, rfl, rfl, rfl, w3⟩ := open_int Try.underlying23 (hval 3 23 v3 rfl rfl) h3
  obtain ⟨n3, rfl, b3⟩ := open_u64 w3
  obtain ⟨a4, rfl, rfl, rfl, w4⟩ := open_int Try.underlying23 (hval 4 23 v4 rfl rfl) h4
  obtain ⟨n4, rfl, b4⟩ := open_u64 w4
  clear hA0 hval0
  refine (walk W n0 n1 n2 n3 n4 b0 b1 b2 b3 b4).mono fun e W' ⟨he, bel⟩ => ?_
  subst he
  exact ⟨_, rfl, _, _, _, [], _, [], hW', trodAll_mk1 (shut_bool Try.underlying4 _), (trodAll_cons_mk (shut_int Try.underlying23 w0) (trodAll_cons_mk (shut_int Try.underlying23 w1) (trodAll_cons_mk (shut_int Try.underlying23 w2) (trodAll_cons_mk (shut_int Try.underlying23 w3) (trodAll_cons_mk (shut_int Try.underlying23 w4) trodAll_mk0))))), rfl, bel.frame _, fun h => by cases h⟩

theorem over : Rows.xhashPartsRow.holds Try.pinned (OpenSpec.ofChange Rows.xhashPartsSpec) :=
  OpenClaim.holds_of_wide 7 Try.f7 rfl rfl rfl rfl rfl rfl rfl ⟨rfl, rfl, rfl, rfl, rfl⟩ rfl rfl rfl rfl rfl (by kernel_rfl) Try.func7 (by kernel_rfl)
    (of_decide_eq_true (by kernel_rfl)) (by unfold Func.isWrapper; first | (rw [if_pos (by decide +kernel)]; kernel_rfl) | (rw [if_neg (by decide +kernel)]; exact ⟨rfl, rfl⟩))
    (fun os started H enc _ => lifted os started H enc)

theorem proved : Rows.XhashPartsSaid := over
#print axioms proved
end Go.Proofs.Ytafpnckpeaggcaa.xhashParts
