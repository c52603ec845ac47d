/-
  The statement OctetOrder: numbers of more bytes are greater; a word of 8 bytes is that of 4 twice and of 2 four times; what is put behind leaves what was ahead. Conditions: none.
-/
import Derived.Test.YtledbkohbjefhaaLives
import Derived.Test.YtledbkohbjefhaaRef1
import Derived.Test.YtledbkohbjefhaaOpen
import Derived.Test.YtledbkohbjefhaaOrd
namespace Go.Proofs.Ytledbkohbjefhaa.octetOrder
open Go.ChangeShapes Go.WideShapes Go.ChangeAt Go.RowKit
set_option linter.unusedVariables false

def QRel (w w7 : World) (l : List UInt8) (n : Nat) (q i : Value) (wr : World) : Prop :=
  ∃ j : Nat, j ≤ 4 ∧ i = .int .i64 (j : Int) ∧ Byt wr q (l ++ wordB (2 * j) n) ∧ Below w7.heap.size w7 wr ∧ Below w.heap.size w wr

theorem shr16 (n j : Nat) : (n : Int) / 2 ^ (16 * j) = ((n / 256 ^ (2 * j) : Nat) : Int) := by
  rw [show (256 : Nat) = 2 ^ 8 from rfl, ← Nat.pow_mul, show 8 * (2 * j) = 16 * j by omega]
  push_cast
  rfl

set_option maxRecDepth 100000 in
set_option maxHeartbeats 8000000 in
theorem walk_lt (w : World) (n m : Nat) (b : Value) (l : List UInt8) (hn : n < 18446744073709551616) (hm : m < 18446744073709551616) (hb : Byt w b l) (hl : l.length ≤ 3000) (hlt : n < m) :
    Calls Try.prog 7 #[.int .u64 n, .int .u64 m, b] w fun e w' => e = .returned (.bool true) ∧ Below w.heap.size w w' := by
  have HB := Lib.hid hb
  obtain ⟨A0, n0, c0, rfl, N0, _, _⟩ := hb.form
  have h0 : ¬ (3000 : Int) < (n0 : Int) := by have := N0.out; omega
  have HN := Lib.hid hn
  have HM := Lib.hid hm
  have SN := Lib.hid (fun w => size_any n w hn)
  have SM := Lib.hid (fun w => size_any m w hm)
  have hs1 := numB_len n
  have hs2 := numB_len m
  have hs3 : (numB n).length ≤ (numB m).length := numF_mono 9 n m (by omega)
  generalize hsn : (numB n).length = sn at *
  generalize hsm : (numB m).length = sm at *
  have HSN := Lib.hid hsn
  have HSM := Lib.hid hsm
  clear hb hn hm hsn hsm
  go_enter Try.func7, Try.ntmps7
  go_wp2_with fail
  refine (lives_any _).mono ?_
  rintro e w1 ⟨rfl, hb1⟩
  go_wp2_with fail
  refine (SN.out _).mono ?_
  rintro e wz ⟨rfl, rfl⟩
  go_wp2_with fail
  refine (SM.out _).mono ?_
  rintro e wz ⟨rfl, rfl⟩
  go_wp2_with fail
  refine (SN.out _).mono ?_
  rintro e wz ⟨rfl, rfl⟩
  go_wp2_with fail
  refine (SN.out _).mono ?_
  rintro e wz ⟨rfl, rfl⟩
  go_wp2_with fail
  have hw1 := hb1
  have HB1 := Lib.hid (HB.out.below hb1)
  clear hb1
  refine (kitown_any _ _ l HB1.out (by omega)).mono ?_
  rintro e w2 ⟨v2, rfl, ho2, hb2⟩
  have hw2 := hw1.trans (hb2.mono hw1.size)
  have HB2 := Lib.hid (HB1.out.below hb2)
  have HA2 := Lib.hid ho2.byt
  clear ho2 hb2
  go_wp2_with fail
  refine (word_is _ _ l n 8 HA2.out HN.out (by omega) (by omega)).mono ?_
  rintro e w3 ⟨v3, rfl, ho3, hb3⟩
  have hw3 := hw2.trans (hb3.mono hw2.size)
  have HB3 := Lib.hid (HB2.out.below hb3)
  have HW3 := Lib.hid ho3.byt
  clear ho3 hb3
  go_wp2_with fail
  refine (kitown_any _ _ l HB3.out (by omega)).mono ?_
  rintro e w4 ⟨v4, rfl, ho4, hb4⟩
  have hw4 := hw3.trans (hb4.mono hw3.size)
  have HB4 := Lib.hid (HB3.out.below hb4)
  have HW4 := Lib.hid (HW3.out.below hb4)
  have HA4 := Lib.hid ho4.byt
  clear ho4 hb4
  go_wp2_with fail
  refine (word_is _ _ l n 4 HA4.out HN.out (by omega) (by omega)).mono ?_
  rintro e w5 ⟨v5, rfl, ho5, hb5⟩
  have hw5 := hw4.trans (hb5.mono hw4.size)
  have HB5 := Lib.hid (HB4.out.below hb5)
  have HW5 := Lib.hid (HW4.out.below hb5)
  have HA5 := Lib.hid ho5.byt
  clear ho5 hb5
  go_wp2_with fail
  rw [show ((n : Int) / 4294967296) = ((n / 4294967296 : Nat) : Int) from by omega]
  refine (word_is _ _ (l ++ wordB 4 n) (n / 4294967296) 4 HA5.out (by have := HN.out; omega) (by omega) (by rw [List.length_append, wordB_len]; omega)).mono ?_
  rintro e w6 ⟨v6, rfl, ho6, hb6⟩
  have hw6 := hw5.trans (hb6.mono hw5.size)
  have HB6 := Lib.hid (HB5.out.below hb6)
  have HW6 := Lib.hid (HW5.out.below hb6)
  have HH6 := Lib.hid ho6.byt
  clear ho6 hb6
  go_wp2_with fail
  refine (kitown_any _ _ l HB6.out (by omega)).mono ?_
  rintro e w7 ⟨v7, rfl, ho7, hb7⟩
  have hw7 := hw6.trans (hb7.mono hw6.size)
  have HB7 := Lib.hid (HB6.out.below hb7)
  have HW7 := Lib.hid (HW6.out.below hb7)
  have HH7 := Lib.hid (HH6.out.below hb7)
  have HQ7 := Lib.hid ho7.byt
  clear ho7 hb7
  go_wp2_with fail
  go_loopw [9, 10] (fun q i wr => QRel w w7 l n q i wr) (fun _ i _ => 4 - (intOf i).toNat)
  case atStart => exact ⟨0, by omega, rfl, by simpa [wordB] using HQ7.out, Below.refl _ _, hw7⟩
  case round =>
    obtain ⟨j, hj, rfl, hq, hb7, hw8⟩ := hrel
    have HQ8 := Lib.hid hq
    have HB8 := Lib.hid (HB7.out.below hb7)
    have HW8 := Lib.hid (HW7.out.below hb7)
    have HH8 := Lib.hid (HH7.out.below hb7)
    clear hq
    by_cases hlt : j < 4
    · have HS := Lib.hid (shr16 n j)
      go_wp2_with fail
      rw [HS.out]
      refine (word_is _ _ (l ++ wordB (2 * j) n) (n / 256 ^ (2 * j)) 2 HQ8.out (Nat.lt_of_le_of_lt (Nat.div_le_self _ _) HN.out) (by omega) (by rw [List.length_append, wordB_len]; omega)).mono ?_
      rintro e w9 ⟨v9, rfl, ho9, hb9⟩
      have hq9 := ho9.byt
      rw [List.append_assoc, ← wordB_add (2 * j) 2 n] at hq9
      have HQ9 := Lib.hid hq9
      have hb79 := hb7.trans (hb9.mono hb7.size)
      have hw9 := hw8.trans (hb9.mono hw8.size)
      clear ho9 hq9 hb9
      go_wp2_with fail
      go_roundw
      case rel => exact ⟨j + 1, by omega, by go_num, HQ9.out, hb79, hw9⟩
      case measure => simp [intOf]; omega
    · obtain rfl : j = 4 := by omega
      go_wp2_with fail
      refine (kitown_any _ _ l HB8.out (by omega)).mono ?_
      rintro e w9 ⟨v9, rfl, ho9, hb9⟩
      have hw9 := hw8.trans (hb9.mono hw8.size)
      have HB9 := Lib.hid (HB8.out.below hb9)
      have HW9 := Lib.hid (HW8.out.below hb9)
      have HH9 := Lib.hid (HH8.out.below hb9)
      have HQ9 := Lib.hid (HQ8.out.below hb9)
      have HA9 := Lib.hid ho9.byt
      clear ho9 hb9
      go_wp2_with fail
      refine (number_any _ _ l m HA9.out HM.out (by omega)).mono ?_
      rintro e w10 ⟨v10, rfl, ho10, hb10⟩
      have hw10 := hw9.trans (hb10.mono hw9.size)
      have HB10 := Lib.hid (HB9.out.below hb10)
      have HW10 := Lib.hid (HW9.out.below hb10)
      have HH10 := Lib.hid (HH9.out.below hb10)
      have HQ10 := Lib.hid (HQ9.out.below hb10)
      have HA10 := Lib.hid ho10.byt
      clear ho10 hb10
      go_wp2_with fail
      refine (block_any _ _ _ (l ++ numB m) l HA10.out HB10.out (by have := numB_len m; rw [List.length_append]; omega)).mono ?_
      rintro e w11 ⟨v11, rfl, ho11, hb11⟩
      have hw11 := hw10.trans (hb11.mono hw10.size)
      have HB11 := Lib.hid (HB10.out.below hb11)
      have HW11 := Lib.hid (HW10.out.below hb11)
      have HH11 := Lib.hid (HH10.out.below hb11)
      have HQ11 := Lib.hid (HQ10.out.below hb11)
      have HX11 := Lib.hid ho11.byt
      clear ho11 hb11
      go_wp2_with fail
      have e1 : l ++ wordB 4 n ++ wordB 4 (n / 4294967296) = l ++ wordB 8 n := by rw [List.append_assoc, wordB_add 4 4 n]
      have T1 := Lib.hid (fun u (hu : Below w11.drew.heap.size w11.drew u) => text_of (HW11.out.drew.below hu))
      have T2 : Hid (∀ u, Below w11.drew.heap.size w11.drew u → (convert 24 9 v6).run Try.prog u = .ok (.string ⟨(l ++ wordB 8 n).toArray⟩) u) := fun u hu => by rw [← e1]; exact text_of (HH11.out.drew.below hu)
      have T3 := Lib.hid (fun u (hu : Below w11.drew.heap.size w11.drew u) => text_of (HQ11.out.drew.below hu))
      have T4 := Lib.hid (fun u (hu : Below w11.drew.heap.size w11.drew u) => text_of (HB11.out.drew.below hu))
      clear e1
      obtain ⟨A3, n3, c3, rfl, N3, k3, m3⟩ := HW11.out.form
      obtain ⟨A9, n9, c9, rfl, N9, k9, m9⟩ := HX11.out.form
      have hn0 := N0.out
      have hn3 := N3.out
      have hn9 := N9.out
      simp only [List.length_append, wordB_len] at hn3 hn9
      have SL := Lib.hid (fun w => size_any n0 w (by omega))
      have hsl := HSM.out
      obtain ⟨sl, hsl2⟩ : ∃ sl, sl = (numB n0).length := ⟨_, rfl⟩
      rw [← hsl2] at SL
      rw [← hn0, hsl, ← hsl2] at hn9
      have hsl3 := numB_len n0
      rw [← hsl2] at hsl3
      obtain ⟨A5, n5, c5, r5, b5, N5, _, _⟩ := HW11.out.uptorun 24 elemByte sizeByte n0 (by omega) .i64
      rw [List.take_left' hn0.symm] at b5
      have T5 := Lib.hid (fun u (hu : Below w11.drew.heap.size w11.drew u) => text_of (b5.drew.below hu))
      obtain ⟨A6, n6, c6, r6, b6, N6, _, _⟩ := HX11.out.uptorun 24 elemByte sizeByte n0 (by omega) .i64
      rw [List.append_assoc, List.append_assoc, List.take_left' hn0.symm] at b6
      have T6 := Lib.hid (fun u (hu : Below w11.drew.heap.size w11.drew u) => text_of (b6.drew.below hu))
      obtain ⟨A7, n7, c7, r7, b7, N7, _, _⟩ := HX11.out.cutrun 24 elemByte sizeByte (n9 - n0) (by omega) .i64
      rw [List.drop_left' (by simp only [List.length_append]; rw [← hn0, hsl, ← hsl2]; omega)] at b7
      have T7 := Lib.hid (fun u (hu : Below w11.drew.heap.size w11.drew u) => text_of (b7.drew.below hu))
      rw [show ((n9 - n0 : Nat) : Int) = (n9 : Int) - (n0 : Int) from by omega] at r7
      have q1 : ((n3 : Int) == (n0 : Int) + 8) = true := by rw [beq_iff_eq]; omega
      have q2 : ((n9 : Int) == 2 * (n0 : Int) + (sm : Int) + (sl : Int)) = true := by rw [beq_iff_eq]; omega
      have hn03 : (n0 : Int) ≤ (n9 : Int) := by omega
      have hn04 : (n0 : Int) ≤ 3000 := by omega
      have hn05 : (n9 : Int) ≤ 7000 := by omega
      have hn06 : (sl : Int) ≤ 10 := by omega
      have W17 := Lib.hid (show IntKind.i64.wrap ((n0 : Int) + 8) = (n0 : Int) + 8 by rw [IntKind.wrap_i64]; omega)
      have W35 := Lib.hid (show IntKind.i64.wrap (2 * (n0 : Int)) = 2 * (n0 : Int) by rw [IntKind.wrap_i64]; omega)
      have W38 := Lib.hid (show IntKind.i64.wrap (2 * (n0 : Int) + (sm : Int)) = 2 * (n0 : Int) + (sm : Int) by rw [IntKind.wrap_i64]; omega)
      have W43 := Lib.hid (show IntKind.i64.wrap (2 * (n0 : Int) + (sm : Int) + (sl : Int)) = 2 * (n0 : Int) + (sm : Int) + (sl : Int) by rw [IntKind.wrap_i64]; omega)
      have W41 := Lib.hid (show IntKind.u64.wrap (n0 : Int) = (n0 : Int) by rw [IntKind.wrap_u64]; omega)
      have W62 := Lib.hid (show IntKind.i64.wrap ((n9 : Int) - (n0 : Int)) = (n9 : Int) - (n0 : Int) by rw [IntKind.wrap_i64]; omega)
      clear hn0 hn3 hn9 hsl hsl2 b5 b6 b7 hsl3
      simp only [List.append_eq, List.cons_append, List.nil_append]
      refine wp_region_R (R := fun x y => Below x.heap.size x y) (by kernel_rfl) (fun _ => Below.refl _ _) (fun h k => h.trans (k.mono h.size)) (by kernel_rfl) (fun d v c a w h => by cases d <;> exact h)
        [(0, false), (1, false), (2, false), (3, false), (4, false), (5, false), (6, false), (7, false), (8, false), (9, false), (10, false), (11, false), (12, false), (13, false), (14, false), (15, false), (16, false), (17, false), (18, false), (19, false), (20, false), (21, false), (22, false), (23, false), (24, false), (25, false), (26, false), (27, false), (28, false), (29, false), (30, false), (31, false), (32, false), (33, false), (34, false), (35, false), (36, false), (39, false), (40, false), (41, false), (37, true), (38, false), (42, true), (43, false), (44, false), (45, false), (46, false), (47, false), (48, false), (49, false), (50, false), (51, false), (52, false), (53, false), (54, false), (55, false), (56, false), (57, false), (58, false), (59, false), (60, false), (61, false), (62, false), (63, false), (64, false), (65, false), (66, false), (67, false), (68, false), (69, false)] rfl (by kernel_rfl) (by kernel_rfl) ?_
      simp only [sel, List.getElem?_toArray, List.getElem?_cons_succ, List.getElem?_cons_zero]
      (refine sch_take ?_ rfl ?_ ?_; rotate_left; (focus (intro u hu; go_simp <;> rfl)); simp only [Act.put, List.setIfInBounds_toArray, List.set_cons_zero, List.set_cons_succ])
      (refine sch_take ?_ rfl ?_ ?_; rotate_left; (focus (intro u hu; have t := T1.out u hu; go_simp <;> rfl)); simp only [Act.put, List.setIfInBounds_toArray, List.set_cons_zero, List.set_cons_succ])
      (refine sch_take ?_ rfl ?_ ?_; rotate_left; (focus (intro u hu; go_simp <;> rfl)); simp only [Act.put, List.setIfInBounds_toArray, List.set_cons_zero, List.set_cons_succ])
      (refine sch_take ?_ rfl ?_ ?_; rotate_left; (focus (intro u hu; have t := T2.out u hu; go_simp <;> rfl)); simp only [Act.put, List.setIfInBounds_toArray, List.set_cons_zero, List.set_cons_succ])
      iterate 3 (refine sch_take ?_ rfl ?_ ?_; rotate_left; (focus (intro u hu; go_simp <;> rfl)); simp only [Act.put, List.setIfInBounds_toArray, List.set_cons_zero, List.set_cons_succ])
      (refine sch_take ?_ rfl ?_ ?_; rotate_left; (focus (intro u hu; have t := T1.out u hu; go_simp <;> rfl)); simp only [Act.put, List.setIfInBounds_toArray, List.set_cons_zero, List.set_cons_succ])
      (refine sch_take ?_ rfl ?_ ?_; rotate_left; (focus (intro u hu; go_simp <;> rfl)); simp only [Act.put, List.setIfInBounds_toArray, List.set_cons_zero, List.set_cons_succ])
      (refine sch_take ?_ rfl ?_ ?_; rotate_left; (focus (intro u hu; have t := T3.out u hu; go_simp <;> rfl)); simp only [Act.put, List.setIfInBounds_toArray, List.set_cons_zero, List.set_cons_succ])
      iterate 7 (refine sch_take ?_ rfl ?_ ?_; rotate_left; (focus (intro u hu; go_simp <;> rfl)); simp only [Act.put, List.setIfInBounds_toArray, List.set_cons_zero, List.set_cons_succ])
      (refine sch_take ?_ rfl ?_ ?_; rotate_left; (focus (intro u hu; have t := W17.out; go_simp <;> rfl)); simp only [Act.put, List.setIfInBounds_toArray, List.set_cons_zero, List.set_cons_succ])
      iterate 7 (refine sch_take ?_ rfl ?_ ?_; rotate_left; (focus (intro u hu; go_simp <;> rfl)); simp only [Act.put, List.setIfInBounds_toArray, List.set_cons_zero, List.set_cons_succ])
      (refine sch_take ?_ rfl ?_ ?_; rotate_left; (focus (intro u hu; have t := T5.out u hu; go_simp <;> rfl)); simp only [Act.put, List.setIfInBounds_toArray, List.set_cons_zero, List.set_cons_succ])
      (refine sch_take ?_ rfl ?_ ?_; rotate_left; (focus (intro u hu; go_simp <;> rfl)); simp only [Act.put, List.setIfInBounds_toArray, List.set_cons_zero, List.set_cons_succ])
      (refine sch_take ?_ rfl ?_ ?_; rotate_left; (focus (intro u hu; have t := T4.out u hu; go_simp <;> rfl)); simp only [Act.put, List.setIfInBounds_toArray, List.set_cons_zero, List.set_cons_succ])
      iterate 7 (refine sch_take ?_ rfl ?_ ?_; rotate_left; (focus (intro u hu; go_simp <;> rfl)); simp only [Act.put, List.setIfInBounds_toArray, List.set_cons_zero, List.set_cons_succ])
      (refine sch_take ?_ rfl ?_ ?_; rotate_left; (focus (intro u hu; have t := W35.out; go_simp <;> rfl)); simp only [Act.put, List.setIfInBounds_toArray, List.set_cons_zero, List.set_cons_succ])
      iterate 3 (refine sch_take ?_ rfl ?_ ?_; rotate_left; (focus (intro u hu; go_simp <;> rfl)); simp only [Act.put, List.setIfInBounds_toArray, List.set_cons_zero, List.set_cons_succ])
      (refine sch_take ?_ rfl ?_ ?_; rotate_left; (focus (intro u hu; have t := W41.out; go_simp <;> rfl)); simp only [Act.put, List.setIfInBounds_toArray, List.set_cons_zero, List.set_cons_succ])
      refine sch_call rfl ?_
      intro K hK
      go_simp
      refine (SM.out _).mono ?_
      rintro e wz ⟨rfl, rfl⟩
      go_wp2_with fail
      refine hK _ _ (Below.refl _ _) ?_
      clear hK K
      (refine sch_take ?_ rfl ?_ ?_; rotate_left; (focus (intro u hu; have t := W38.out; go_simp <;> rfl)); simp only [Act.put, List.setIfInBounds_toArray, List.set_cons_zero, List.set_cons_succ])
      refine sch_call rfl ?_
      intro K hK
      go_simp
      refine (SL.out _).mono ?_
      rintro e wz ⟨rfl, rfl⟩
      go_wp2_with fail
      refine hK _ _ (Below.refl _ _) ?_
      clear hK K
      (refine sch_take ?_ rfl ?_ ?_; rotate_left; (focus (intro u hu; have t := W43.out; go_simp <;> rfl)); simp only [Act.put, List.setIfInBounds_toArray, List.set_cons_zero, List.set_cons_succ])
      iterate 7 (refine sch_take ?_ rfl ?_ ?_; rotate_left; (focus (intro u hu; go_simp <;> rfl)); simp only [Act.put, List.setIfInBounds_toArray, List.set_cons_zero, List.set_cons_succ])
      (refine sch_take ?_ rfl ?_ ?_; rotate_left; (focus (intro u hu; have t := T6.out u hu; go_simp <;> rfl)); simp only [Act.put, List.setIfInBounds_toArray, List.set_cons_zero, List.set_cons_succ])
      (refine sch_take ?_ rfl ?_ ?_; rotate_left; (focus (intro u hu; go_simp <;> rfl)); simp only [Act.put, List.setIfInBounds_toArray, List.set_cons_zero, List.set_cons_succ])
      (refine sch_take ?_ rfl ?_ ?_; rotate_left; (focus (intro u hu; have t := T4.out u hu; go_simp <;> rfl)); simp only [Act.put, List.setIfInBounds_toArray, List.set_cons_zero, List.set_cons_succ])
      iterate 8 (refine sch_take ?_ rfl ?_ ?_; rotate_left; (focus (intro u hu; go_simp <;> rfl)); simp only [Act.put, List.setIfInBounds_toArray, List.set_cons_zero, List.set_cons_succ])
      (refine sch_take ?_ rfl ?_ ?_; rotate_left; (focus (intro u hu; have t := W62.out; go_simp <;> rfl)); simp only [Act.put, List.setIfInBounds_toArray, List.set_cons_zero, List.set_cons_succ])
      (refine sch_take ?_ rfl ?_ ?_; rotate_left; (focus (intro u hu; go_simp <;> rfl)); simp only [Act.put, List.setIfInBounds_toArray, List.set_cons_zero, List.set_cons_succ])
      (refine sch_take ?_ rfl ?_ ?_; rotate_left; (focus (intro u hu; have t := T7.out u hu; go_simp <;> rfl)); simp only [Act.put, List.setIfInBounds_toArray, List.set_cons_zero, List.set_cons_succ])
      (refine sch_take ?_ rfl ?_ ?_; rotate_left; (focus (intro u hu; go_simp <;> rfl)); simp only [Act.put, List.setIfInBounds_toArray, List.set_cons_zero, List.set_cons_succ])
      (refine sch_take ?_ rfl ?_ ?_; rotate_left; (focus (intro u hu; have t := T4.out u hu; go_simp <;> rfl)); simp only [Act.put, List.setIfInBounds_toArray, List.set_cons_zero, List.set_cons_succ])
      iterate 3 (refine sch_take ?_ rfl ?_ ?_; rotate_left; (focus (intro u hu; go_simp <;> rfl)); simp only [Act.put, List.setIfInBounds_toArray, List.set_cons_zero, List.set_cons_succ])
      refine sch_nil ?_
      go_wp2_with fail
      go_ret
      exact ⟨rfl, hw11.drew⟩

set_option maxRecDepth 100000 in
set_option maxHeartbeats 8000000 in
theorem walk_eq (w : World) (n m : Nat) (b : Value) (l : List UInt8) (hn : n < 18446744073709551616) (hm : m < 18446744073709551616) (hb : Byt w b l) (hl : l.length ≤ 3000) (hle : n ≤ m) (hge : m ≤ n) :
    Calls Try.prog 7 #[.int .u64 n, .int .u64 m, b] w fun e w' => e = .returned (.bool true) ∧ Below w.heap.size w w' := by
  have HB := Lib.hid hb
  obtain ⟨A0, n0, c0, rfl, N0, _, _⟩ := hb.form
  have h0 : ¬ (3000 : Int) < (n0 : Int) := by have := N0.out; omega
  have HN := Lib.hid hn
  have HM := Lib.hid hm
  have SN := Lib.hid (fun w => size_any n w hn)
  have SM := Lib.hid (fun w => size_any m w hm)
  have hs1 := numB_len n
  have hs2 := numB_len m
  have hs3 : (numB n).length ≤ (numB m).length := numF_mono 9 n m (by omega)
  have hs4 : (numB m).length ≤ (numB n).length := numF_mono 9 m n (by omega)
  generalize hsn : (numB n).length = sn at *
  generalize hsm : (numB m).length = sm at *
  have HSN := Lib.hid hsn
  have HSM := Lib.hid hsm
  clear hb hn hm hsn hsm
  go_enter Try.func7, Try.ntmps7
  go_wp2_with fail
  refine (lives_any _).mono ?_
  rintro e w1 ⟨rfl, hb1⟩
  go_wp2_with fail
  refine (SN.out _).mono ?_
  rintro e wz ⟨rfl, rfl⟩
  go_wp2_with fail
  refine (SM.out _).mono ?_
  rintro e wz ⟨rfl, rfl⟩
  go_wp2_with fail
  refine (SN.out _).mono ?_
  rintro e wz ⟨rfl, rfl⟩
  go_wp2_with fail
  refine (SM.out _).mono ?_
  rintro e wz ⟨rfl, rfl⟩
  go_wp2_with fail
  refine (SN.out _).mono ?_
  rintro e wz ⟨rfl, rfl⟩
  go_wp2_with fail
  refine (SN.out _).mono ?_
  rintro e wz ⟨rfl, rfl⟩
  go_wp2_with fail
  have hw1 := hb1
  have HB1 := Lib.hid (HB.out.below hb1)
  clear hb1
  refine (kitown_any _ _ l HB1.out (by omega)).mono ?_
  rintro e w2 ⟨v2, rfl, ho2, hb2⟩
  have hw2 := hw1.trans (hb2.mono hw1.size)
  have HB2 := Lib.hid (HB1.out.below hb2)
  have HA2 := Lib.hid ho2.byt
  clear ho2 hb2
  go_wp2_with fail
  refine (word_is _ _ l n 8 HA2.out HN.out (by omega) (by omega)).mono ?_
  rintro e w3 ⟨v3, rfl, ho3, hb3⟩
  have hw3 := hw2.trans (hb3.mono hw2.size)
  have HB3 := Lib.hid (HB2.out.below hb3)
  have HW3 := Lib.hid ho3.byt
  clear ho3 hb3
  go_wp2_with fail
  refine (kitown_any _ _ l HB3.out (by omega)).mono ?_
  rintro e w4 ⟨v4, rfl, ho4, hb4⟩
  have hw4 := hw3.trans (hb4.mono hw3.size)
  have HB4 := Lib.hid (HB3.out.below hb4)
  have HW4 := Lib.hid (HW3.out.below hb4)
  have HA4 := Lib.hid ho4.byt
  clear ho4 hb4
  go_wp2_with fail
  refine (word_is _ _ l n 4 HA4.out HN.out (by omega) (by omega)).mono ?_
  rintro e w5 ⟨v5, rfl, ho5, hb5⟩
  have hw5 := hw4.trans (hb5.mono hw4.size)
  have HB5 := Lib.hid (HB4.out.below hb5)
  have HW5 := Lib.hid (HW4.out.below hb5)
  have HA5 := Lib.hid ho5.byt
  clear ho5 hb5
  go_wp2_with fail
  rw [show ((n : Int) / 4294967296) = ((n / 4294967296 : Nat) : Int) from by omega]
  refine (word_is _ _ (l ++ wordB 4 n) (n / 4294967296) 4 HA5.out (by have := HN.out; omega) (by omega) (by rw [List.length_append, wordB_len]; omega)).mono ?_
  rintro e w6 ⟨v6, rfl, ho6, hb6⟩
  have hw6 := hw5.trans (hb6.mono hw5.size)
  have HB6 := Lib.hid (HB5.out.below hb6)
  have HW6 := Lib.hid (HW5.out.below hb6)
  have HH6 := Lib.hid ho6.byt
  clear ho6 hb6
  go_wp2_with fail
  refine (kitown_any _ _ l HB6.out (by omega)).mono ?_
  rintro e w7 ⟨v7, rfl, ho7, hb7⟩
  have hw7 := hw6.trans (hb7.mono hw6.size)
  have HB7 := Lib.hid (HB6.out.below hb7)
  have HW7 := Lib.hid (HW6.out.below hb7)
  have HH7 := Lib.hid (HH6.out.below hb7)
  have HQ7 := Lib.hid ho7.byt
  clear ho7 hb7
  go_wp2_with fail
  go_loopw [9, 10] (fun q i wr => QRel w w7 l n q i wr) (fun _ i _ => 4 - (intOf i).toNat)
  case atStart => exact ⟨0, by omega, rfl, by simpa [wordB] using HQ7.out, Below.refl _ _, hw7⟩
  case round =>
    obtain ⟨j, hj, rfl, hq, hb7, hw8⟩ := hrel
    have HQ8 := Lib.hid hq
    have HB8 := Lib.hid (HB7.out.below hb7)
    have HW8 := Lib.hid (HW7.out.below hb7)
    have HH8 := Lib.hid (HH7.out.below hb7)
    clear hq
    by_cases hlt : j < 4
    · have HS := Lib.hid (shr16 n j)
      go_wp2_with fail
      rw [HS.out]
      refine (word_is _ _ (l ++ wordB (2 * j) n) (n / 256 ^ (2 * j)) 2 HQ8.out (Nat.lt_of_le_of_lt (Nat.div_le_self _ _) HN.out) (by omega) (by rw [List.length_append, wordB_len]; omega)).mono ?_
      rintro e w9 ⟨v9, rfl, ho9, hb9⟩
      have hq9 := ho9.byt
      rw [List.append_assoc, ← wordB_add (2 * j) 2 n] at hq9
      have HQ9 := Lib.hid hq9
      have hb79 := hb7.trans (hb9.mono hb7.size)
      have hw9 := hw8.trans (hb9.mono hw8.size)
      clear ho9 hq9 hb9
      go_wp2_with fail
      go_roundw
      case rel => exact ⟨j + 1, by omega, by go_num, HQ9.out, hb79, hw9⟩
      case measure => simp [intOf]; omega
    · obtain rfl : j = 4 := by omega
      go_wp2_with fail
      refine (kitown_any _ _ l HB8.out (by omega)).mono ?_
      rintro e w9 ⟨v9, rfl, ho9, hb9⟩
      have hw9 := hw8.trans (hb9.mono hw8.size)
      have HB9 := Lib.hid (HB8.out.below hb9)
      have HW9 := Lib.hid (HW8.out.below hb9)
      have HH9 := Lib.hid (HH8.out.below hb9)
      have HQ9 := Lib.hid (HQ8.out.below hb9)
      have HA9 := Lib.hid ho9.byt
      clear ho9 hb9
      go_wp2_with fail
      refine (number_any _ _ l m HA9.out HM.out (by omega)).mono ?_
      rintro e w10 ⟨v10, rfl, ho10, hb10⟩
      have hw10 := hw9.trans (hb10.mono hw9.size)
      have HB10 := Lib.hid (HB9.out.below hb10)
      have HW10 := Lib.hid (HW9.out.below hb10)
      have HH10 := Lib.hid (HH9.out.below hb10)
      have HQ10 := Lib.hid (HQ9.out.below hb10)
      have HA10 := Lib.hid ho10.byt
      clear ho10 hb10
      go_wp2_with fail
      refine (block_any _ _ _ (l ++ numB m) l HA10.out HB10.out (by have := numB_len m; rw [List.length_append]; omega)).mono ?_
      rintro e w11 ⟨v11, rfl, ho11, hb11⟩
      have hw11 := hw10.trans (hb11.mono hw10.size)
      have HB11 := Lib.hid (HB10.out.below hb11)
      have HW11 := Lib.hid (HW10.out.below hb11)
      have HH11 := Lib.hid (HH10.out.below hb11)
      have HQ11 := Lib.hid (HQ10.out.below hb11)
      have HX11 := Lib.hid ho11.byt
      clear ho11 hb11
      go_wp2_with fail
      have e1 : l ++ wordB 4 n ++ wordB 4 (n / 4294967296) = l ++ wordB 8 n := by rw [List.append_assoc, wordB_add 4 4 n]
      have T1 := Lib.hid (fun u (hu : Below w11.drew.heap.size w11.drew u) => text_of (HW11.out.drew.below hu))
      have T2 : Hid (∀ u, Below w11.drew.heap.size w11.drew u → (convert 24 9 v6).run Try.prog u = .ok (.string ⟨(l ++ wordB 8 n).toArray⟩) u) := fun u hu => by rw [← e1]; exact text_of (HH11.out.drew.below hu)
      have T3 := Lib.hid (fun u (hu : Below w11.drew.heap.size w11.drew u) => text_of (HQ11.out.drew.below hu))
      have T4 := Lib.hid (fun u (hu : Below w11.drew.heap.size w11.drew u) => text_of (HB11.out.drew.below hu))
      clear e1
      obtain ⟨A3, n3, c3, rfl, N3, k3, m3⟩ := HW11.out.form
      obtain ⟨A9, n9, c9, rfl, N9, k9, m9⟩ := HX11.out.form
      have hn0 := N0.out
      have hn3 := N3.out
      have hn9 := N9.out
      simp only [List.length_append, wordB_len] at hn3 hn9
      have SL := Lib.hid (fun w => size_any n0 w (by omega))
      have hsl := HSM.out
      obtain ⟨sl, hsl2⟩ : ∃ sl, sl = (numB n0).length := ⟨_, rfl⟩
      rw [← hsl2] at SL
      rw [← hn0, hsl, ← hsl2] at hn9
      have hsl3 := numB_len n0
      rw [← hsl2] at hsl3
      obtain ⟨A5, n5, c5, r5, b5, N5, _, _⟩ := HW11.out.uptorun 24 elemByte sizeByte n0 (by omega) .i64
      rw [List.take_left' hn0.symm] at b5
      have T5 := Lib.hid (fun u (hu : Below w11.drew.heap.size w11.drew u) => text_of (b5.drew.below hu))
      obtain ⟨A6, n6, c6, r6, b6, N6, _, _⟩ := HX11.out.uptorun 24 elemByte sizeByte n0 (by omega) .i64
      rw [List.append_assoc, List.append_assoc, List.take_left' hn0.symm] at b6
      have T6 := Lib.hid (fun u (hu : Below w11.drew.heap.size w11.drew u) => text_of (b6.drew.below hu))
      obtain ⟨A7, n7, c7, r7, b7, N7, _, _⟩ := HX11.out.cutrun 24 elemByte sizeByte (n9 - n0) (by omega) .i64
      rw [List.drop_left' (by simp only [List.length_append]; rw [← hn0, hsl, ← hsl2]; omega)] at b7
      have T7 := Lib.hid (fun u (hu : Below w11.drew.heap.size w11.drew u) => text_of (b7.drew.below hu))
      rw [show ((n9 - n0 : Nat) : Int) = (n9 : Int) - (n0 : Int) from by omega] at r7
      have q1 : ((n3 : Int) == (n0 : Int) + 8) = true := by rw [beq_iff_eq]; omega
      have q2 : ((n9 : Int) == 2 * (n0 : Int) + (sm : Int) + (sl : Int)) = true := by rw [beq_iff_eq]; omega
      have hn03 : (n0 : Int) ≤ (n9 : Int) := by omega
      have hn04 : (n0 : Int) ≤ 3000 := by omega
      have hn05 : (n9 : Int) ≤ 7000 := by omega
      have hn06 : (sl : Int) ≤ 10 := by omega
      have W17 := Lib.hid (show IntKind.i64.wrap ((n0 : Int) + 8) = (n0 : Int) + 8 by rw [IntKind.wrap_i64]; omega)
      have W35 := Lib.hid (show IntKind.i64.wrap (2 * (n0 : Int)) = 2 * (n0 : Int) by rw [IntKind.wrap_i64]; omega)
      have W38 := Lib.hid (show IntKind.i64.wrap (2 * (n0 : Int) + (sm : Int)) = 2 * (n0 : Int) + (sm : Int) by rw [IntKind.wrap_i64]; omega)
      have W43 := Lib.hid (show IntKind.i64.wrap (2 * (n0 : Int) + (sm : Int) + (sl : Int)) = 2 * (n0 : Int) + (sm : Int) + (sl : Int) by rw [IntKind.wrap_i64]; omega)
      have W41 := Lib.hid (show IntKind.u64.wrap (n0 : Int) = (n0 : Int) by rw [IntKind.wrap_u64]; omega)
      have W62 := Lib.hid (show IntKind.i64.wrap ((n9 : Int) - (n0 : Int)) = (n9 : Int) - (n0 : Int) by rw [IntKind.wrap_i64]; omega)
      clear hn0 hn3 hn9 hsl hsl2 b5 b6 b7 hsl3
      simp only [List.append_eq, List.cons_append, List.nil_append]
      refine wp_region_R (R := fun x y => Below x.heap.size x y) (by kernel_rfl) (fun _ => Below.refl _ _) (fun h k => h.trans (k.mono h.size)) (by kernel_rfl) (fun d v c a w h => by cases d <;> exact h)
        [(0, false), (1, false), (2, false), (3, false), (4, false), (5, false), (6, false), (7, false), (8, false), (9, false), (10, false), (11, false), (12, false), (13, false), (14, false), (15, false), (16, false), (17, false), (18, false), (19, false), (20, false), (21, false), (22, false), (23, false), (24, false), (25, false), (26, false), (27, false), (28, false), (29, false), (30, false), (31, false), (32, false), (33, false), (34, false), (35, false), (36, false), (39, false), (40, false), (41, false), (37, true), (38, false), (42, true), (43, false), (44, false), (45, false), (46, false), (47, false), (48, false), (49, false), (50, false), (51, false), (52, false), (53, false), (54, false), (55, false), (56, false), (57, false), (58, false), (59, false), (60, false), (61, false), (62, false), (63, false), (64, false), (65, false), (66, false), (67, false), (68, false), (69, false)] rfl (by kernel_rfl) (by kernel_rfl) ?_
      simp only [sel, List.getElem?_toArray, List.getElem?_cons_succ, List.getElem?_cons_zero]
      (refine sch_take ?_ rfl ?_ ?_; rotate_left; (focus (intro u hu; go_simp <;> rfl)); simp only [Act.put, List.setIfInBounds_toArray, List.set_cons_zero, List.set_cons_succ])
      (refine sch_take ?_ rfl ?_ ?_; rotate_left; (focus (intro u hu; have t := T1.out u hu; go_simp <;> rfl)); simp only [Act.put, List.setIfInBounds_toArray, List.set_cons_zero, List.set_cons_succ])
      (refine sch_take ?_ rfl ?_ ?_; rotate_left; (focus (intro u hu; go_simp <;> rfl)); simp only [Act.put, List.setIfInBounds_toArray, List.set_cons_zero, List.set_cons_succ])
      (refine sch_take ?_ rfl ?_ ?_; rotate_left; (focus (intro u hu; have t := T2.out u hu; go_simp <;> rfl)); simp only [Act.put, List.setIfInBounds_toArray, List.set_cons_zero, List.set_cons_succ])
      iterate 3 (refine sch_take ?_ rfl ?_ ?_; rotate_left; (focus (intro u hu; go_simp <;> rfl)); simp only [Act.put, List.setIfInBounds_toArray, List.set_cons_zero, List.set_cons_succ])
      (refine sch_take ?_ rfl ?_ ?_; rotate_left; (focus (intro u hu; have t := T1.out u hu; go_simp <;> rfl)); simp only [Act.put, List.setIfInBounds_toArray, List.set_cons_zero, List.set_cons_succ])
      (refine sch_take ?_ rfl ?_ ?_; rotate_left; (focus (intro u hu; go_simp <;> rfl)); simp only [Act.put, List.setIfInBounds_toArray, List.set_cons_zero, List.set_cons_succ])
      (refine sch_take ?_ rfl ?_ ?_; rotate_left; (focus (intro u hu; have t := T3.out u hu; go_simp <;> rfl)); simp only [Act.put, List.setIfInBounds_toArray, List.set_cons_zero, List.set_cons_succ])
      iterate 7 (refine sch_take ?_ rfl ?_ ?_; rotate_left; (focus (intro u hu; go_simp <;> rfl)); simp only [Act.put, List.setIfInBounds_toArray, List.set_cons_zero, List.set_cons_succ])
      (refine sch_take ?_ rfl ?_ ?_; rotate_left; (focus (intro u hu; have t := W17.out; go_simp <;> rfl)); simp only [Act.put, List.setIfInBounds_toArray, List.set_cons_zero, List.set_cons_succ])
      iterate 7 (refine sch_take ?_ rfl ?_ ?_; rotate_left; (focus (intro u hu; go_simp <;> rfl)); simp only [Act.put, List.setIfInBounds_toArray, List.set_cons_zero, List.set_cons_succ])
      (refine sch_take ?_ rfl ?_ ?_; rotate_left; (focus (intro u hu; have t := T5.out u hu; go_simp <;> rfl)); simp only [Act.put, List.setIfInBounds_toArray, List.set_cons_zero, List.set_cons_succ])
      (refine sch_take ?_ rfl ?_ ?_; rotate_left; (focus (intro u hu; go_simp <;> rfl)); simp only [Act.put, List.setIfInBounds_toArray, List.set_cons_zero, List.set_cons_succ])
      (refine sch_take ?_ rfl ?_ ?_; rotate_left; (focus (intro u hu; have t := T4.out u hu; go_simp <;> rfl)); simp only [Act.put, List.setIfInBounds_toArray, List.set_cons_zero, List.set_cons_succ])
      iterate 7 (refine sch_take ?_ rfl ?_ ?_; rotate_left; (focus (intro u hu; go_simp <;> rfl)); simp only [Act.put, List.setIfInBounds_toArray, List.set_cons_zero, List.set_cons_succ])
      (refine sch_take ?_ rfl ?_ ?_; rotate_left; (focus (intro u hu; have t := W35.out; go_simp <;> rfl)); simp only [Act.put, List.setIfInBounds_toArray, List.set_cons_zero, List.set_cons_succ])
      iterate 3 (refine sch_take ?_ rfl ?_ ?_; rotate_left; (focus (intro u hu; go_simp <;> rfl)); simp only [Act.put, List.setIfInBounds_toArray, List.set_cons_zero, List.set_cons_succ])
      (refine sch_take ?_ rfl ?_ ?_; rotate_left; (focus (intro u hu; have t := W41.out; go_simp <;> rfl)); simp only [Act.put, List.setIfInBounds_toArray, List.set_cons_zero, List.set_cons_succ])
      refine sch_call rfl ?_
      intro K hK
      go_simp
      refine (SM.out _).mono ?_
      rintro e wz ⟨rfl, rfl⟩
      go_wp2_with fail
      refine hK _ _ (Below.refl _ _) ?_
      clear hK K
      (refine sch_take ?_ rfl ?_ ?_; rotate_left; (focus (intro u hu; have t := W38.out; go_simp <;> rfl)); simp only [Act.put, List.setIfInBounds_toArray, List.set_cons_zero, List.set_cons_succ])
      refine sch_call rfl ?_
      intro K hK
      go_simp
      refine (SL.out _).mono ?_
      rintro e wz ⟨rfl, rfl⟩
      go_wp2_with fail
      refine hK _ _ (Below.refl _ _) ?_
      clear hK K
      (refine sch_take ?_ rfl ?_ ?_; rotate_left; (focus (intro u hu; have t := W43.out; go_simp <;> rfl)); simp only [Act.put, List.setIfInBounds_toArray, List.set_cons_zero, List.set_cons_succ])
      iterate 7 (refine sch_take ?_ rfl ?_ ?_; rotate_left; (focus (intro u hu; go_simp <;> rfl)); simp only [Act.put, List.setIfInBounds_toArray, List.set_cons_zero, List.set_cons_succ])
      (refine sch_take ?_ rfl ?_ ?_; rotate_left; (focus (intro u hu; have t := T6.out u hu; go_simp <;> rfl)); simp only [Act.put, List.setIfInBounds_toArray, List.set_cons_zero, List.set_cons_succ])
      (refine sch_take ?_ rfl ?_ ?_; rotate_left; (focus (intro u hu; go_simp <;> rfl)); simp only [Act.put, List.setIfInBounds_toArray, List.set_cons_zero, List.set_cons_succ])
      (refine sch_take ?_ rfl ?_ ?_; rotate_left; (focus (intro u hu; have t := T4.out u hu; go_simp <;> rfl)); simp only [Act.put, List.setIfInBounds_toArray, List.set_cons_zero, List.set_cons_succ])
      iterate 8 (refine sch_take ?_ rfl ?_ ?_; rotate_left; (focus (intro u hu; go_simp <;> rfl)); simp only [Act.put, List.setIfInBounds_toArray, List.set_cons_zero, List.set_cons_succ])
      (refine sch_take ?_ rfl ?_ ?_; rotate_left; (focus (intro u hu; have t := W62.out; go_simp <;> rfl)); simp only [Act.put, List.setIfInBounds_toArray, List.set_cons_zero, List.set_cons_succ])
      (refine sch_take ?_ rfl ?_ ?_; rotate_left; (focus (intro u hu; go_simp <;> rfl)); simp only [Act.put, List.setIfInBounds_toArray, List.set_cons_zero, List.set_cons_succ])
      (refine sch_take ?_ rfl ?_ ?_; rotate_left; (focus (intro u hu; have t := T7.out u hu; go_simp <;> rfl)); simp only [Act.put, List.setIfInBounds_toArray, List.set_cons_zero, List.set_cons_succ])
      (refine sch_take ?_ rfl ?_ ?_; rotate_left; (focus (intro u hu; go_simp <;> rfl)); simp only [Act.put, List.setIfInBounds_toArray, List.set_cons_zero, List.set_cons_succ])
      (refine sch_take ?_ rfl ?_ ?_; rotate_left; (focus (intro u hu; have t := T4.out u hu; go_simp <;> rfl)); simp only [Act.put, List.setIfInBounds_toArray, List.set_cons_zero, List.set_cons_succ])
      iterate 3 (refine sch_take ?_ rfl ?_ ?_; rotate_left; (focus (intro u hu; go_simp <;> rfl)); simp only [Act.put, List.setIfInBounds_toArray, List.set_cons_zero, List.set_cons_succ])
      refine sch_nil ?_
      go_wp2_with fail
      go_ret
      exact ⟨rfl, hw11.drew⟩

set_option maxRecDepth 100000 in
set_option maxHeartbeats 8000000 in
theorem walk_gt (w : World) (n m : Nat) (b : Value) (l : List UInt8) (hn : n < 18446744073709551616) (hm : m < 18446744073709551616) (hb : Byt w b l) (hl : l.length ≤ 3000) (hlt : m < n) :
    Calls Try.prog 7 #[.int .u64 n, .int .u64 m, b] w fun e w' => e = .returned (.bool true) ∧ Below w.heap.size w w' := by
  have HB := Lib.hid hb
  obtain ⟨A0, n0, c0, rfl, N0, _, _⟩ := hb.form
  have h0 : ¬ (3000 : Int) < (n0 : Int) := by have := N0.out; omega
  have HN := Lib.hid hn
  have HM := Lib.hid hm
  have SN := Lib.hid (fun w => size_any n w hn)
  have SM := Lib.hid (fun w => size_any m w hm)
  have hs1 := numB_len n
  have hs2 := numB_len m
  have hs3 : (numB m).length ≤ (numB n).length := numF_mono 9 m n (by omega)
  generalize hsn : (numB n).length = sn at *
  generalize hsm : (numB m).length = sm at *
  have HSN := Lib.hid hsn
  have HSM := Lib.hid hsm
  clear hb hn hm hsn hsm
  go_enter Try.func7, Try.ntmps7
  go_wp2_with fail
  refine (lives_any _).mono ?_
  rintro e w1 ⟨rfl, hb1⟩
  go_wp2_with fail
  refine (SN.out _).mono ?_
  rintro e wz ⟨rfl, rfl⟩
  go_wp2_with fail
  refine (SM.out _).mono ?_
  rintro e wz ⟨rfl, rfl⟩
  go_wp2_with fail
  refine (SN.out _).mono ?_
  rintro e wz ⟨rfl, rfl⟩
  go_wp2_with fail
  refine (SN.out _).mono ?_
  rintro e wz ⟨rfl, rfl⟩
  go_wp2_with fail
  have hw1 := hb1
  have HB1 := Lib.hid (HB.out.below hb1)
  clear hb1
  refine (kitown_any _ _ l HB1.out (by omega)).mono ?_
  rintro e w2 ⟨v2, rfl, ho2, hb2⟩
  have hw2 := hw1.trans (hb2.mono hw1.size)
  have HB2 := Lib.hid (HB1.out.below hb2)
  have HA2 := Lib.hid ho2.byt
  clear ho2 hb2
  go_wp2_with fail
  refine (word_is _ _ l n 8 HA2.out HN.out (by omega) (by omega)).mono ?_
  rintro e w3 ⟨v3, rfl, ho3, hb3⟩
  have hw3 := hw2.trans (hb3.mono hw2.size)
  have HB3 := Lib.hid (HB2.out.below hb3)
  have HW3 := Lib.hid ho3.byt
  clear ho3 hb3
  go_wp2_with fail
  refine (kitown_any _ _ l HB3.out (by omega)).mono ?_
  rintro e w4 ⟨v4, rfl, ho4, hb4⟩
  have hw4 := hw3.trans (hb4.mono hw3.size)
  have HB4 := Lib.hid (HB3.out.below hb4)
  have HW4 := Lib.hid (HW3.out.below hb4)
  have HA4 := Lib.hid ho4.byt
  clear ho4 hb4
  go_wp2_with fail
  refine (word_is _ _ l n 4 HA4.out HN.out (by omega) (by omega)).mono ?_
  rintro e w5 ⟨v5, rfl, ho5, hb5⟩
  have hw5 := hw4.trans (hb5.mono hw4.size)
  have HB5 := Lib.hid (HB4.out.below hb5)
  have HW5 := Lib.hid (HW4.out.below hb5)
  have HA5 := Lib.hid ho5.byt
  clear ho5 hb5
  go_wp2_with fail
  rw [show ((n : Int) / 4294967296) = ((n / 4294967296 : Nat) : Int) from by omega]
  refine (word_is _ _ (l ++ wordB 4 n) (n / 4294967296) 4 HA5.out (by have := HN.out; omega) (by omega) (by rw [List.length_append, wordB_len]; omega)).mono ?_
  rintro e w6 ⟨v6, rfl, ho6, hb6⟩
  have hw6 := hw5.trans (hb6.mono hw5.size)
  have HB6 := Lib.hid (HB5.out.below hb6)
  have HW6 := Lib.hid (HW5.out.below hb6)
  have HH6 := Lib.hid ho6.byt
  clear ho6 hb6
  go_wp2_with fail
  refine (kitown_any _ _ l HB6.out (by omega)).mono ?_
  rintro e w7 ⟨v7, rfl, ho7, hb7⟩
  have hw7 := hw6.trans (hb7.mono hw6.size)
  have HB7 := Lib.hid (HB6.out.below hb7)
  have HW7 := Lib.hid (HW6.out.below hb7)
  have HH7 := Lib.hid (HH6.out.below hb7)
  have HQ7 := Lib.hid ho7.byt
  clear ho7 hb7
  go_wp2_with fail
  go_loopw [9, 10] (fun q i wr => QRel w w7 l n q i wr) (fun _ i _ => 4 - (intOf i).toNat)
  case atStart => exact ⟨0, by omega, rfl, by simpa [wordB] using HQ7.out, Below.refl _ _, hw7⟩
  case round =>
    obtain ⟨j, hj, rfl, hq, hb7, hw8⟩ := hrel
    have HQ8 := Lib.hid hq
    have HB8 := Lib.hid (HB7.out.below hb7)
    have HW8 := Lib.hid (HW7.out.below hb7)
    have HH8 := Lib.hid (HH7.out.below hb7)
    clear hq
    by_cases hlt : j < 4
    · have HS := Lib.hid (shr16 n j)
      go_wp2_with fail
      rw [HS.out]
      refine (word_is _ _ (l ++ wordB (2 * j) n) (n / 256 ^ (2 * j)) 2 HQ8.out (Nat.lt_of_le_of_lt (Nat.div_le_self _ _) HN.out) (by omega) (by rw [List.length_append, wordB_len]; omega)).mono ?_
      rintro e w9 ⟨v9, rfl, ho9, hb9⟩
      have hq9 := ho9.byt
      rw [List.append_assoc, ← wordB_add (2 * j) 2 n] at hq9
      have HQ9 := Lib.hid hq9
      have hb79 := hb7.trans (hb9.mono hb7.size)
      have hw9 := hw8.trans (hb9.mono hw8.size)
      clear ho9 hq9 hb9
      go_wp2_with fail
      go_roundw
      case rel => exact ⟨j + 1, by omega, by go_num, HQ9.out, hb79, hw9⟩
      case measure => simp [intOf]; omega
    · obtain rfl : j = 4 := by omega
      go_wp2_with fail
      refine (kitown_any _ _ l HB8.out (by omega)).mono ?_
      rintro e w9 ⟨v9, rfl, ho9, hb9⟩
      have hw9 := hw8.trans (hb9.mono hw8.size)
      have HB9 := Lib.hid (HB8.out.below hb9)
      have HW9 := Lib.hid (HW8.out.below hb9)
      have HH9 := Lib.hid (HH8.out.below hb9)
      have HQ9 := Lib.hid (HQ8.out.below hb9)
      have HA9 := Lib.hid ho9.byt
      clear ho9 hb9
      go_wp2_with fail
      refine (number_any _ _ l m HA9.out HM.out (by omega)).mono ?_
      rintro e w10 ⟨v10, rfl, ho10, hb10⟩
      have hw10 := hw9.trans (hb10.mono hw9.size)
      have HB10 := Lib.hid (HB9.out.below hb10)
      have HW10 := Lib.hid (HW9.out.below hb10)
      have HH10 := Lib.hid (HH9.out.below hb10)
      have HQ10 := Lib.hid (HQ9.out.below hb10)
      have HA10 := Lib.hid ho10.byt
      clear ho10 hb10
      go_wp2_with fail
      refine (block_any _ _ _ (l ++ numB m) l HA10.out HB10.out (by have := numB_len m; rw [List.length_append]; omega)).mono ?_
      rintro e w11 ⟨v11, rfl, ho11, hb11⟩
      have hw11 := hw10.trans (hb11.mono hw10.size)
      have HB11 := Lib.hid (HB10.out.below hb11)
      have HW11 := Lib.hid (HW10.out.below hb11)
      have HH11 := Lib.hid (HH10.out.below hb11)
      have HQ11 := Lib.hid (HQ10.out.below hb11)
      have HX11 := Lib.hid ho11.byt
      clear ho11 hb11
      go_wp2_with fail
      have e1 : l ++ wordB 4 n ++ wordB 4 (n / 4294967296) = l ++ wordB 8 n := by rw [List.append_assoc, wordB_add 4 4 n]
      have T1 := Lib.hid (fun u (hu : Below w11.drew.heap.size w11.drew u) => text_of (HW11.out.drew.below hu))
      have T2 : Hid (∀ u, Below w11.drew.heap.size w11.drew u → (convert 24 9 v6).run Try.prog u = .ok (.string ⟨(l ++ wordB 8 n).toArray⟩) u) := fun u hu => by rw [← e1]; exact text_of (HH11.out.drew.below hu)
      have T3 := Lib.hid (fun u (hu : Below w11.drew.heap.size w11.drew u) => text_of (HQ11.out.drew.below hu))
      have T4 := Lib.hid (fun u (hu : Below w11.drew.heap.size w11.drew u) => text_of (HB11.out.drew.below hu))
      clear e1
      obtain ⟨A3, n3, c3, rfl, N3, k3, m3⟩ := HW11.out.form
      obtain ⟨A9, n9, c9, rfl, N9, k9, m9⟩ := HX11.out.form
      have hn0 := N0.out
      have hn3 := N3.out
      have hn9 := N9.out
      simp only [List.length_append, wordB_len] at hn3 hn9
      have SL := Lib.hid (fun w => size_any n0 w (by omega))
      have hsl := HSM.out
      obtain ⟨sl, hsl2⟩ : ∃ sl, sl = (numB n0).length := ⟨_, rfl⟩
      rw [← hsl2] at SL
      rw [← hn0, hsl, ← hsl2] at hn9
      have hsl3 := numB_len n0
      rw [← hsl2] at hsl3
      obtain ⟨A5, n5, c5, r5, b5, N5, _, _⟩ := HW11.out.uptorun 24 elemByte sizeByte n0 (by omega) .i64
      rw [List.take_left' hn0.symm] at b5
      have T5 := Lib.hid (fun u (hu : Below w11.drew.heap.size w11.drew u) => text_of (b5.drew.below hu))
      obtain ⟨A6, n6, c6, r6, b6, N6, _, _⟩ := HX11.out.uptorun 24 elemByte sizeByte n0 (by omega) .i64
      rw [List.append_assoc, List.append_assoc, List.take_left' hn0.symm] at b6
      have T6 := Lib.hid (fun u (hu : Below w11.drew.heap.size w11.drew u) => text_of (b6.drew.below hu))
      obtain ⟨A7, n7, c7, r7, b7, N7, _, _⟩ := HX11.out.cutrun 24 elemByte sizeByte (n9 - n0) (by omega) .i64
      rw [List.drop_left' (by simp only [List.length_append]; rw [← hn0, hsl, ← hsl2]; omega)] at b7
      have T7 := Lib.hid (fun u (hu : Below w11.drew.heap.size w11.drew u) => text_of (b7.drew.below hu))
      rw [show ((n9 - n0 : Nat) : Int) = (n9 : Int) - (n0 : Int) from by omega] at r7
      have q1 : ((n3 : Int) == (n0 : Int) + 8) = true := by rw [beq_iff_eq]; omega
      have q2 : ((n9 : Int) == 2 * (n0 : Int) + (sm : Int) + (sl : Int)) = true := by rw [beq_iff_eq]; omega
      have hn03 : (n0 : Int) ≤ (n9 : Int) := by omega
      have hn04 : (n0 : Int) ≤ 3000 := by omega
      have hn05 : (n9 : Int) ≤ 7000 := by omega
      have hn06 : (sl : Int) ≤ 10 := by omega
      have W17 := Lib.hid (show IntKind.i64.wrap ((n0 : Int) + 8) = (n0 : Int) + 8 by rw [IntKind.wrap_i64]; omega)
      have W35 := Lib.hid (show IntKind.i64.wrap (2 * (n0 : Int)) = 2 * (n0 : Int) by rw [IntKind.wrap_i64]; omega)
      have W38 := Lib.hid (show IntKind.i64.wrap (2 * (n0 : Int) + (sm : Int)) = 2 * (n0 : Int) + (sm : Int) by rw [IntKind.wrap_i64]; omega)
      have W43 := Lib.hid (show IntKind.i64.wrap (2 * (n0 : Int) + (sm : Int) + (sl : Int)) = 2 * (n0 : Int) + (sm : Int) + (sl : Int) by rw [IntKind.wrap_i64]; omega)
      have W41 := Lib.hid (show IntKind.u64.wrap (n0 : Int) = (n0 : Int) by rw [IntKind.wrap_u64]; omega)
      have W62 := Lib.hid (show IntKind.i64.wrap ((n9 : Int) - (n0 : Int)) = (n9 : Int) - (n0 : Int) by rw [IntKind.wrap_i64]; omega)
      clear hn0 hn3 hn9 hsl hsl2 b5 b6 b7 hsl3
      simp only [List.append_eq, List.cons_append, List.nil_append]
      refine wp_region_R (R := fun x y => Below x.heap.size x y) (by kernel_rfl) (fun _ => Below.refl _ _) (fun h k => h.trans (k.mono h.size)) (by kernel_rfl) (fun d v c a w h => by cases d <;> exact h)
        [(0, false), (1, false), (2, false), (3, false), (4, false), (5, false), (6, false), (7, false), (8, false), (9, false), (10, false), (11, false), (12, false), (13, false), (14, false), (15, false), (16, false), (17, false), (18, false), (19, false), (20, false), (21, false), (22, false), (23, false), (24, false), (25, false), (26, false), (27, false), (28, false), (29, false), (30, false), (31, false), (32, false), (33, false), (34, false), (35, false), (36, false), (39, false), (40, false), (41, false), (37, true), (38, false), (42, true), (43, false), (44, false), (45, false), (46, false), (47, false), (48, false), (49, false), (50, false), (51, false), (52, false), (53, false), (54, false), (55, false), (56, false), (57, false), (58, false), (59, false), (60, false), (61, false), (62, false), (63, false), (64, false), (65, false), (66, false), (67, false), (68, false), (69, false)] rfl (by kernel_rfl) (by kernel_rfl) ?_
      simp only [sel, List.getElem?_toArray, List.getElem?_cons_succ, List.getElem?_cons_zero]
      (refine sch_take ?_ rfl ?_ ?_; rotate_left; (focus (intro u hu; go_simp <;> rfl)); simp only [Act.put, List.setIfInBounds_toArray, List.set_cons_zero, List.set_cons_succ])
      (refine sch_take ?_ rfl ?_ ?_; rotate_left; (focus (intro u hu; have t := T1.out u hu; go_simp <;> rfl)); simp only [Act.put, List.setIfInBounds_toArray, List.set_cons_zero, List.set_cons_succ])
      (refine sch_take ?_ rfl ?_ ?_; rotate_left; (focus (intro u hu; go_simp <;> rfl)); simp only [Act.put, List.setIfInBounds_toArray, List.set_cons_zero, List.set_cons_succ])
      (refine sch_take ?_ rfl ?_ ?_; rotate_left; (focus (intro u hu; have t := T2.out u hu; go_simp <;> rfl)); simp only [Act.put, List.setIfInBounds_toArray, List.set_cons_zero, List.set_cons_succ])
      iterate 3 (refine sch_take ?_ rfl ?_ ?_; rotate_left; (focus (intro u hu; go_simp <;> rfl)); simp only [Act.put, List.setIfInBounds_toArray, List.set_cons_zero, List.set_cons_succ])
      (refine sch_take ?_ rfl ?_ ?_; rotate_left; (focus (intro u hu; have t := T1.out u hu; go_simp <;> rfl)); simp only [Act.put, List.setIfInBounds_toArray, List.set_cons_zero, List.set_cons_succ])
      (refine sch_take ?_ rfl ?_ ?_; rotate_left; (focus (intro u hu; go_simp <;> rfl)); simp only [Act.put, List.setIfInBounds_toArray, List.set_cons_zero, List.set_cons_succ])
      (refine sch_take ?_ rfl ?_ ?_; rotate_left; (focus (intro u hu; have t := T3.out u hu; go_simp <;> rfl)); simp only [Act.put, List.setIfInBounds_toArray, List.set_cons_zero, List.set_cons_succ])
      iterate 7 (refine sch_take ?_ rfl ?_ ?_; rotate_left; (focus (intro u hu; go_simp <;> rfl)); simp only [Act.put, List.setIfInBounds_toArray, List.set_cons_zero, List.set_cons_succ])
      (refine sch_take ?_ rfl ?_ ?_; rotate_left; (focus (intro u hu; have t := W17.out; go_simp <;> rfl)); simp only [Act.put, List.setIfInBounds_toArray, List.set_cons_zero, List.set_cons_succ])
      iterate 7 (refine sch_take ?_ rfl ?_ ?_; rotate_left; (focus (intro u hu; go_simp <;> rfl)); simp only [Act.put, List.setIfInBounds_toArray, List.set_cons_zero, List.set_cons_succ])
      (refine sch_take ?_ rfl ?_ ?_; rotate_left; (focus (intro u hu; have t := T5.out u hu; go_simp <;> rfl)); simp only [Act.put, List.setIfInBounds_toArray, List.set_cons_zero, List.set_cons_succ])
      (refine sch_take ?_ rfl ?_ ?_; rotate_left; (focus (intro u hu; go_simp <;> rfl)); simp only [Act.put, List.setIfInBounds_toArray, List.set_cons_zero, List.set_cons_succ])
      (refine sch_take ?_ rfl ?_ ?_; rotate_left; (focus (intro u hu; have t := T4.out u hu; go_simp <;> rfl)); simp only [Act.put, List.setIfInBounds_toArray, List.set_cons_zero, List.set_cons_succ])
      iterate 7 (refine sch_take ?_ rfl ?_ ?_; rotate_left; (focus (intro u hu; go_simp <;> rfl)); simp only [Act.put, List.setIfInBounds_toArray, List.set_cons_zero, List.set_cons_succ])
      (refine sch_take ?_ rfl ?_ ?_; rotate_left; (focus (intro u hu; have t := W35.out; go_simp <;> rfl)); simp only [Act.put, List.setIfInBounds_toArray, List.set_cons_zero, List.set_cons_succ])
      iterate 3 (refine sch_take ?_ rfl ?_ ?_; rotate_left; (focus (intro u hu; go_simp <;> rfl)); simp only [Act.put, List.setIfInBounds_toArray, List.set_cons_zero, List.set_cons_succ])
      (refine sch_take ?_ rfl ?_ ?_; rotate_left; (focus (intro u hu; have t := W41.out; go_simp <;> rfl)); simp only [Act.put, List.setIfInBounds_toArray, List.set_cons_zero, List.set_cons_succ])
      refine sch_call rfl ?_
      intro K hK
      go_simp
      refine (SM.out _).mono ?_
      rintro e wz ⟨rfl, rfl⟩
      go_wp2_with fail
      refine hK _ _ (Below.refl _ _) ?_
      clear hK K
      (refine sch_take ?_ rfl ?_ ?_; rotate_left; (focus (intro u hu; have t := W38.out; go_simp <;> rfl)); simp only [Act.put, List.setIfInBounds_toArray, List.set_cons_zero, List.set_cons_succ])
      refine sch_call rfl ?_
      intro K hK
      go_simp
      refine (SL.out _).mono ?_
      rintro e wz ⟨rfl, rfl⟩
      go_wp2_with fail
      refine hK _ _ (Below.refl _ _) ?_
      clear hK K
      (refine sch_take ?_ rfl ?_ ?_; rotate_left; (focus (intro u hu; have t := W43.out; go_simp <;> rfl)); simp only [Act.put, List.setIfInBounds_toArray, List.set_cons_zero, List.set_cons_succ])
      iterate 7 (refine sch_take ?_ rfl ?_ ?_; rotate_left; (focus (intro u hu; go_simp <;> rfl)); simp only [Act.put, List.setIfInBounds_toArray, List.set_cons_zero, List.set_cons_succ])
      (refine sch_take ?_ rfl ?_ ?_; rotate_left; (focus (intro u hu; have t := T6.out u hu; go_simp <;> rfl)); simp only [Act.put, List.setIfInBounds_toArray, List.set_cons_zero, List.set_cons_succ])
      (refine sch_take ?_ rfl ?_ ?_; rotate_left; (focus (intro u hu; go_simp <;> rfl)); simp only [Act.put, List.setIfInBounds_toArray, List.set_cons_zero, List.set_cons_succ])
      (refine sch_take ?_ rfl ?_ ?_; rotate_left; (focus (intro u hu; have t := T4.out u hu; go_simp <;> rfl)); simp only [Act.put, List.setIfInBounds_toArray, List.set_cons_zero, List.set_cons_succ])
      iterate 8 (refine sch_take ?_ rfl ?_ ?_; rotate_left; (focus (intro u hu; go_simp <;> rfl)); simp only [Act.put, List.setIfInBounds_toArray, List.set_cons_zero, List.set_cons_succ])
      (refine sch_take ?_ rfl ?_ ?_; rotate_left; (focus (intro u hu; have t := W62.out; go_simp <;> rfl)); simp only [Act.put, List.setIfInBounds_toArray, List.set_cons_zero, List.set_cons_succ])
      (refine sch_take ?_ rfl ?_ ?_; rotate_left; (focus (intro u hu; go_simp <;> rfl)); simp only [Act.put, List.setIfInBounds_toArray, List.set_cons_zero, List.set_cons_succ])
      (refine sch_take ?_ rfl ?_ ?_; rotate_left; (focus (intro u hu; have t := T7.out u hu; go_simp <;> rfl)); simp only [Act.put, List.setIfInBounds_toArray, List.set_cons_zero, List.set_cons_succ])
      (refine sch_take ?_ rfl ?_ ?_; rotate_left; (focus (intro u hu; go_simp <;> rfl)); simp only [Act.put, List.setIfInBounds_toArray, List.set_cons_zero, List.set_cons_succ])
      (refine sch_take ?_ rfl ?_ ?_; rotate_left; (focus (intro u hu; have t := T4.out u hu; go_simp <;> rfl)); simp only [Act.put, List.setIfInBounds_toArray, List.set_cons_zero, List.set_cons_succ])
      iterate 3 (refine sch_take ?_ rfl ?_ ?_; rotate_left; (focus (intro u hu; go_simp <;> rfl)); simp only [Act.put, List.setIfInBounds_toArray, List.set_cons_zero, List.set_cons_succ])
      refine sch_nil ?_
      go_wp2_with fail
      go_ret
      exact ⟨rfl, hw11.drew⟩

set_option maxHeartbeats 1000000 in
theorem walk_big (w : World) (n m : Nat) (b : Value) (l : List UInt8) (hb : Byt w b l) (hbig : 3000 < l.length) :
    Calls Try.prog 7 #[.int .u64 n, .int .u64 m, b] w fun e w' => e = .returned (.bool true) ∧ Below w.heap.size w w' := by
  obtain ⟨A0, n0, c0, rfl, N0, _, _⟩ := hb.form
  have h : (3000 : Int) < (n0 : Int) := by have := N0.out; omega
  clear hb hbig
  go_enter Try.func7, Try.ntmps7
  go_wp2_with fail
  refine (lives_any _).mono ?_
  rintro e w1 ⟨rfl, hb1⟩
  go_wp2_with fail
  go_ret
  exact ⟨rfl, hb1⟩

theorem walk (w : World) (n m : Nat) (b : Value) (l : List UInt8) (hn : n < 18446744073709551616) (hm : m < 18446744073709551616) (hb : Byt w b l) :
    Calls Try.prog 7 #[.int .u64 n, .int .u64 m, b] w fun e w' => e = .returned (.bool true) ∧ Below w.heap.size w w' := by
  by_cases h : 3000 < l.length
  · exact walk_big w n m b l hb h
  · rcases Nat.lt_trichotomy n m with h1 | h1 | h1
    · exact walk_lt w n m b l hn hm hb (by omega) h1
    · exact walk_eq w n m b l hn hm hb (by omega) (by omega) (by omega)
    · exact walk_gt w n m b l hn hm hb (by omega) h1

set_option maxRecDepth 100000 in
theorem lifted (os : Os) (started : os.Started) (H : Type) (enc : TypeId × Value → H) :
    ReturnsInHanded {} Try.checked os 7 .any (Rows.octetOrderSpec.pre6 enc Try.prog Try.f7 Rows.octetOrderRow.domain false) (Rows.octetOrderSpec.post enc Try.prog Try.f7 false true false false) := by
  refine returnsInHanded_of_change (C := Try.checked) ownKnobs started (by kernel_rfl) Try.func7
    (ChangeSpec.witness6 (enc := enc) (C := Try.checked) false ⟨#[], #[.int .u64 0, .int .u64 0, .slice none 0 0], []⟩ 8 (by kernel_rfl) (by kernel_rfl) (by kernel_rfl) (by kernel_rfl)) ?_
  intro W base args ds gs before hval0 hW hcnd _
  have hval : ∀ (j : Nat) t v, Try.f7.params[j]? = some t → args[j]? = some v → Value.okWide Try.prog W .any base t v := hval0
  have hW' := hW
  obtain ⟨p, q, hA0, hV, rfl, hfz, hnd⟩ := hW
  have hA : DataW.TrodAll enc Try.prog W 0 (fun _ => true) true Try.f7.params.toList args.toList ds p := hA0
  rw [Try.params7] at hA hval
  obtain ⟨v0, vs0, d0, ds0, p0, q0, hargs, rfl, rfl, h0, r0⟩ := trodAll_cons hA
  obtain ⟨v1, vs1, d1, ds1, p1, q1, rfl, rfl, rfl, h1, r1⟩ := trodAll_cons r0
  obtain ⟨v2, vs2, d2, ds2, p2, q2, rfl, rfl, rfl, h2, r2⟩ := trodAll_cons r1
  obtain ⟨rfl, rfl, rfl⟩ := trodAll_nil r2
  obtain rfl : args = #[v0, v1, v2] := by cases args; simp_all
  obtain ⟨rfl, rfl⟩ := trodVars_none hV
  obtain ⟨a0, rfl, rfl, rfl, w0⟩ := open_int Try.underlying29 (hval 0 29 v0 rfl rfl) h0
  obtain ⟨n0, rfl, b0⟩ := open_u64 w0
  obtain ⟨a1, rfl, rfl, rfl, w1⟩ := open_int Try.underlying29 (hval 1 29 v1 rfl rfl) h1
  obtain ⟨n1, rfl, b1⟩ := open_u64 w1
  have k2 := h2
  have lt2 : ∀ x ∈ p2, x.block < W.heap.size := by obtain ⟨m, hm⟩ := k2; exact DataW.trod_lt m _ _ _ hm
  obtain ⟨l2, b2⟩ := open_bytes (hval 2 24 v2 rfl rfl) h2
  clear hA0 hval0
  refine (walk W n0 n1 v2 l2 b0 b1 b2).mono fun e W' ⟨he, bel⟩ => ?_
  subst he
  exact ⟨_, rfl, _, _, _, [], _, [], hW', trodAll_mk1 (shut_bool Try.underlying4 _), (trodAll_cons_mk (shut_int Try.underlying29 w0) (trodAll_cons_mk (shut_int Try.underlying29 w1) (trodAll_cons_mk (Below.trod laidOuts (by kernel_rfl) (of_decide_eq_true (by kernel_rfl)) k2 bel lt2) trodAll_mk0))), rfl, bel.frame _, fun h => by cases h⟩

theorem over : Rows.octetOrderRow.holds Try.pinned (OpenSpec.ofChange Rows.octetOrderSpec) :=
  OpenClaim.holds_of_wide 7 Try.f7 rfl rfl rfl rfl rfl rfl rfl ⟨rfl, rfl, rfl, rfl, rfl⟩ rfl rfl rfl rfl rfl (by kernel_rfl) Try.func7 (by kernel_rfl)
    (of_decide_eq_true (by kernel_rfl)) (by unfold Func.isWrapper; first | (rw [if_pos (by decide +kernel)]; kernel_rfl) | (rw [if_neg (by decide +kernel)]; exact ⟨rfl, rfl⟩))
    (fun os started H enc _ => lifted os started H enc)

theorem proved : Rows.OctetOrderSaid := over
#print axioms proved
end Go.Proofs.Ytledbkohbjefhaa.octetOrder
