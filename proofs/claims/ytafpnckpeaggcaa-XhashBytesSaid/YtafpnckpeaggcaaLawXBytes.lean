/-
  The statement XhashBytes: a byte changed among few changes the hash; so does the seed; texts are their bytes. Conditions: none.
-/
import Derived.Test.YtafpnckpeaggcaaLives2
import Derived.Test.YtafpnckpeaggcaaHone
import Derived.Test.YtafpnckpeaggcaaNum2
import Derived.Test.YtafpnckpeaggcaaOpen
namespace Go.Proofs.Ytafpnckpeaggcaa.xhashBytes
open Go.ChangeShapes Go.WideShapes Go.ChangeAt Go.RowKit
set_option linter.unusedVariables false

theorem sum_8 (s : Nat) (l : List UInt8) (hl : l.length = 8) : sumW s l = avalW (step8 (addW (addW s xp5) 8) l) := by
  unfold sumW headW restW
  rw [if_neg (by omega), hl]
  simp only [Nat.reduceDiv, Nat.mul_zero, List.drop_zero, hl, rest8, Nat.mul_one]
  unfold rest4
  rw [if_neg (by rw [List.length_drop]; omega), List.drop_eq_nil_of_le (by omega), rest1_nil]
theorem sum_1 (s : Nat) (x : UInt8) : sumW s [x] = avalW (step1 (addW (addW s xp5) 1) x) := by
  unfold sumW headW restW
  rw [if_neg (by simp)]
  simp only [List.length_cons, List.length_nil, Nat.zero_add, Nat.reduceDiv, Nat.mul_zero, List.drop_zero, rest8]
  unfold rest4
  rw [if_neg (by simp)]
  unfold rest1
  rw [List.foldl_cons, List.foldl_nil]
theorem sum_0 (s : Nat) : sumW s [] = avalW (addW (addW s xp5) 0) := by
  unfold sumW headW restW
  rw [if_neg (by simp)]
  simp only [List.length_nil, Nat.zero_div, Nat.mul_zero, List.drop_zero, rest8]
  unfold rest4
  rw [if_neg (by simp), rest1_nil]
theorem step8_inj {h : Nat} {l m : List UInt8} (hh : h < 18446744073709551616) (e : step8 h l = step8 h m) : wordN (l.take 8) % 18446744073709551616 = wordN (m.take 8) % 18446744073709551616 := by
  unfold step8 at e
  have e1 := mulW_inj _ (rotW_lt _ _ (xor_lt hh (roundW_lt _ _))) (rotW_lt _ _ (xor_lt hh (roundW_lt _ _))) inv1 (addW_inj (mulW_lt _ _) (mulW_lt _ _) e)
  have e2 := xor_inj (rotW_inj 27 (by omega) (xor_lt hh (roundW_lt _ _)) (xor_lt hh (roundW_lt _ _)) e1)
  rw [← round_mod 0 (wordN (l.take 8)), ← round_mod 0 (wordN (m.take 8))] at e2
  exact round_inj2 (Nat.mod_lt _ (by omega)) (Nat.mod_lt _ (by omega)) e2
theorem sums_8 (s a b : Nat) (ha : a < 18446744073709551616) (hb : b < 18446744073709551616) (h : sumW s (wordB 8 a) = sumW s (wordB 8 b)) : a = b := by
  rw [sum_8 s _ (wordB_len 8 a), sum_8 s _ (wordB_len 8 b)] at h
  have e := step8_inj (addW_lt _ _) (avalW_inj (step8_lt _ _) (step8_lt _ _) h)
  rw [List.take_of_length_le (by rw [wordB_len]; omega), List.take_of_length_le (by rw [wordB_len]; omega), wordN_word, wordN_word] at e
  have e8 : (256 : Nat) ^ 8 = 18446744073709551616 := by decide +kernel
  rw [e8] at e
  omega
theorem take1 (a : Nat) : (wordB 8 a).take 1 = [UInt8.ofNat (a % 256)] := by
  rw [wordB, List.take_succ_cons, List.take_zero]
theorem sums_1 (s : Nat) (x y : UInt8) (h : sumW s [x] = sumW s [y]) : x = y := by
  rw [sum_1, sum_1] at h
  have e := avalW_inj (step1_lt _ _) (step1_lt _ _) h
  unfold step1 at e
  have e1 := mulW_inj _ (rotW_lt _ _ (xor_lt (addW_lt _ _) (mulW_lt _ _))) (rotW_lt _ _ (xor_lt (addW_lt _ _) (mulW_lt _ _))) inv1 e
  have e2 := xor_inj (rotW_inj 11 (by omega) (xor_lt (addW_lt _ _) (mulW_lt _ _)) (xor_lt (addW_lt _ _) (mulW_lt _ _)) e1)
  have hx : x.toNat < 256 := x.toNat_lt
  have hy : y.toNat < 256 := y.toNat_lt
  exact UInt8.toNat_inj.1 (mulW_inj _ (by omega) (by omega) inv5 e2)
theorem byte_of (a b : Nat) (h : UInt8.ofNat (a % 256) = UInt8.ofNat (b % 256)) : a % 256 = b % 256 := by
  have := congrArg UInt8.toNat h
  rw [u8n, u8n] at this
  omega
theorem sums_0 (a b : Nat) (ha : a < 18446744073709551616) (hb : b < 18446744073709551616) (h : sumW a [] = sumW b []) : a = b := by
  rw [sum_0, sum_0] at h
  exact addW_inj ha hb (addW_inj (addW_lt _ _) (addW_lt _ _) (avalW_inj (addW_lt _ _) (addW_lt _ _) h))

set_option maxRecDepth 100000 in
set_option maxHeartbeats 8000000 in
theorem walk_eq (w : World) (s a : Nat) (hs : s < 18446744073709551616) (ha : a < 18446744073709551616) :
    Calls Try.prog 6 #[.int .u64 (s : Int), .int .u64 (a : Int), .int .u64 (a : Int)] w fun e w' => e = .returned (.bool true) ∧ Below w.heap.size w w' := by
  have W1 := Lib.hid (fun w => word_is w (.slice none 0 0) [] a 8 (Byt.nil _) ha (by omega) (by simp))
  have W2 := Lib.hid (fun w => word_is w (.slice none 0 0) [] a 8 (Byt.nil _) ha (by omega) (by simp))
  rw [List.nil_append] at W1 W2
  have S1 := Lib.hid (fun w v hv => sum_any w s v (wordB 8 a) hv hs (by rw [wordB_len]; omega))
  have S2 := Lib.hid (fun w v hv => sum_any w s v (wordB 8 a) hv hs (by rw [wordB_len]; omega))
  have S3 := Lib.hid (fun w v hv => sum_any w s v ((wordB 8 a).take 1) hv hs (by rw [List.length_take]; omega))
  have S4 := Lib.hid (fun w v hv => sum_any w s v ((wordB 8 a).take 1) hv hs (by rw [List.length_take]; omega))
  have S5 := Lib.hid (fun w => sum_any w a (.slice none 0 0) [] (Byt.nil _) ha (by simp))
  have S6 := Lib.hid (fun w => sum_any w a (.slice none 0 0) [] (Byt.nil _) ha (by simp))
  generalize sumW s (wordB 8 a) = y1 at *
  generalize sumW a [] = y5 at *
  generalize sumW s ((wordB 8 a).take 1) = y3 at *
  clear hs ha
  go_enter Try.func6, Try.ntmps6
  go_wp2_with fail
  refine (lives2_any _).mono ?_
  rintro e w1 ⟨rfl, hb1⟩
  go_wp2_with fail
  refine (W1.out _).mono ?_
  rintro e w2 ⟨v2, rfl, ho2, hb2⟩
  have hw2 := hb1.trans (hb2.mono hb1.size)
  have HX2 := Lib.hid ho2.byt
  clear hb1 hb2 ho2
  go_wp2_with fail
  refine (W2.out _).mono ?_
  rintro e w3 ⟨v3, rfl, ho3, hb3⟩
  have hw3 := (hw2.trans (hb3.mono hw2.size)).drew
  obtain ⟨A2, n2, c2, rfl, N2, l2, m2⟩ := (HX2.out.below hb3).form
  obtain ⟨A3, n3, c3, rfl, N3, l3, m3⟩ := ho3.byt.form
  have hn2 : n2 = 8 := by have := N2.out; rw [wordB_len] at this; exact this
  have hn3 : n3 = 8 := by have := N3.out; rw [wordB_len] at this; exact this
  subst hn2
  subst hn3
  have HX := Lib.hid (show Byt w3.drew _ _ from (HX2.out.below hb3).drew)
  have HY := Lib.hid (show Byt w3.drew _ _ from ho3.byt.drew)
  have HP := Lib.hid (HX.out.upto (k := 1) (by omega))
  have HQ := Lib.hid (HY.out.upto (k := 1) (by omega))
  clear ho3 hb3 hw2 HX2 N2 N3
  have q2 : (1 : Int) ≤ (c2 : Int) := by omega
  have q3 : (1 : Int) ≤ (c3 : Int) := by omega
  go_wp2_with fail
  refine wp_region_R (R := fun x y => x = y) (by kernel_rfl) (fun _ => rfl) (fun h k => h.trans k) (by kernel_rfl) (fun d v c a w h => by cases d <;> exact h)
    [(0, false), (1, false), (2, false), (3, false), (4, false), (5, false), (6, false), (7, false), (8, false), (9, false), (10, false), (11, false)] rfl (by kernel_rfl) (by kernel_rfl) ?_
  simp only [sel, List.getElem?_toArray, List.getElem?_cons_succ, List.getElem?_cons_zero]
  generalize w3.drew = wd at *
  iterate 12 (refine sch_take ?_ rfl ?_ ?_; rotate_left; (focus (intro u hu; clear hu; go_simp <;> rfl)); simp only [Act.put, List.setIfInBounds_toArray, List.set_cons_zero, List.set_cons_succ])
  refine sch_nil ?_
  go_wp2_with fail
  refine (S1.out _ _ HX.out).mono ?_
  rintro e x0 ⟨rfl, hb0⟩
  have k0 := hw3.trans (hb0.mono hw3.size)
  have HX := Lib.hid (HX.out.below hb0)
  have HY := Lib.hid (HY.out.below hb0)
  have HP := Lib.hid (HP.out.below hb0)
  have HQ := Lib.hid (HQ.out.below hb0)
  clear hb0 hw3
  go_wp2_with fail
  refine (S2.out _ _ HY.out).mono ?_
  rintro e x1 ⟨rfl, hb1⟩
  have k1 := k0.trans (hb1.mono k0.size)
  have HX := Lib.hid (HX.out.below hb1)
  have HY := Lib.hid (HY.out.below hb1)
  have HP := Lib.hid (HP.out.below hb1)
  have HQ := Lib.hid (HQ.out.below hb1)
  clear hb1 k0
  go_wp2_with fail
  refine (S3.out _ _ HP.out).mono ?_
  rintro e x2 ⟨rfl, hb2⟩
  have k2 := k1.trans (hb2.mono k1.size)
  have HX := Lib.hid (HX.out.below hb2)
  have HY := Lib.hid (HY.out.below hb2)
  have HP := Lib.hid (HP.out.below hb2)
  have HQ := Lib.hid (HQ.out.below hb2)
  clear hb2 k1
  go_wp2_with fail
  refine (S4.out _ _ HQ.out).mono ?_
  rintro e x3 ⟨rfl, hb3⟩
  have k3 := k2.trans (hb3.mono k2.size)
  have HX := Lib.hid (HX.out.below hb3)
  have HY := Lib.hid (HY.out.below hb3)
  have HP := Lib.hid (HP.out.below hb3)
  have HQ := Lib.hid (HQ.out.below hb3)
  clear hb3 k2
  go_wp2_with fail
  refine (S5.out _).mono ?_
  rintro e x4 ⟨rfl, hb4⟩
  have k4 := k3.trans (hb4.mono k3.size)
  clear hb4 k3
  go_wp2_with fail
  refine (S6.out _).mono ?_
  rintro e x5 ⟨rfl, hb5⟩
  have k5 := k4.trans (hb5.mono k4.size)
  clear hb5 k4
  go_wp2_with fail
  go_ret
  exact ⟨rfl, k5⟩

set_option maxRecDepth 100000 in
set_option maxHeartbeats 8000000 in
theorem walk_same (w : World) (s a b : Nat) (hs : s < 18446744073709551616) (ha : a < 18446744073709551616) (hb : b < 18446744073709551616) (hne : a ≠ b) (hm : a % 256 = b % 256) :
    Calls Try.prog 6 #[.int .u64 (s : Int), .int .u64 (a : Int), .int .u64 (b : Int)] w fun e w' => e = .returned (.bool true) ∧ Below w.heap.size w w' := by
  have W1 := Lib.hid (fun w => word_is w (.slice none 0 0) [] a 8 (Byt.nil _) ha (by omega) (by simp))
  have W2 := Lib.hid (fun w => word_is w (.slice none 0 0) [] b 8 (Byt.nil _) hb (by omega) (by simp))
  rw [List.nil_append] at W1 W2
  have S1 := Lib.hid (fun w v hv => sum_any w s v (wordB 8 a) hv hs (by rw [wordB_len]; omega))
  have S2 := Lib.hid (fun w v hv => sum_any w s v (wordB 8 b) hv hs (by rw [wordB_len]; omega))
  have S3 := Lib.hid (fun w v hv => sum_any w s v ((wordB 8 a).take 1) hv hs (by rw [List.length_take]; omega))
  have S4 := Lib.hid (fun w v hv => sum_any w s v ((wordB 8 b).take 1) hv hs (by rw [List.length_take]; omega))
  have S5 := Lib.hid (fun w => sum_any w a (.slice none 0 0) [] (Byt.nil _) ha (by simp))
  have S6 := Lib.hid (fun w => sum_any w b (.slice none 0 0) [] (Byt.nil _) hb (by simp))
  have e0 := ne_int hne
  have e1 := ne_int (fun h => hne (sums_8 s a b ha hb h))
  have e3 := ne_int (fun h => hne (sums_0 a b ha hb h))
  have et : sumW s ((wordB 8 a).take 1) = sumW s ((wordB 8 b).take 1) := by rw [take1, take1, hm]
  rw [et] at S3
  have em : (a : Int) % 256 = (b : Int) % 256 := by omega
  generalize sumW s (wordB 8 a) = y1 at *
  generalize sumW a [] = y5 at *
  generalize sumW s (wordB 8 b) = y2 at *
  generalize sumW b [] = y6 at *
  generalize sumW s ((wordB 8 b).take 1) = y3 at *
  clear hs ha hb hne hm et
  go_enter Try.func6, Try.ntmps6
  go_wp2_with fail
  refine (lives2_any _).mono ?_
  rintro e w1 ⟨rfl, hb1⟩
  go_wp2_with fail
  refine (W1.out _).mono ?_
  rintro e w2 ⟨v2, rfl, ho2, hb2⟩
  have hw2 := hb1.trans (hb2.mono hb1.size)
  have HX2 := Lib.hid ho2.byt
  clear hb1 hb2 ho2
  go_wp2_with fail
  refine (W2.out _).mono ?_
  rintro e w3 ⟨v3, rfl, ho3, hb3⟩
  have hw3 := (hw2.trans (hb3.mono hw2.size)).drew
  obtain ⟨A2, n2, c2, rfl, N2, l2, m2⟩ := (HX2.out.below hb3).form
  obtain ⟨A3, n3, c3, rfl, N3, l3, m3⟩ := ho3.byt.form
  have hn2 : n2 = 8 := by have := N2.out; rw [wordB_len] at this; exact this
  have hn3 : n3 = 8 := by have := N3.out; rw [wordB_len] at this; exact this
  subst hn2
  subst hn3
  have HX := Lib.hid (show Byt w3.drew _ _ from (HX2.out.below hb3).drew)
  have HY := Lib.hid (show Byt w3.drew _ _ from ho3.byt.drew)
  have HP := Lib.hid (HX.out.upto (k := 1) (by omega))
  have HQ := Lib.hid (HY.out.upto (k := 1) (by omega))
  clear ho3 hb3 hw2 HX2 N2 N3
  have q2 : (1 : Int) ≤ (c2 : Int) := by omega
  have q3 : (1 : Int) ≤ (c3 : Int) := by omega
  go_wp2_with fail
  refine wp_region_R (R := fun x y => x = y) (by kernel_rfl) (fun _ => rfl) (fun h k => h.trans k) (by kernel_rfl) (fun d v c a w h => by cases d <;> exact h)
    [(0, false), (1, false), (2, false), (3, false), (4, false), (5, false), (6, false), (7, false), (8, false), (9, false), (10, false), (11, false)] rfl (by kernel_rfl) (by kernel_rfl) ?_
  simp only [sel, List.getElem?_toArray, List.getElem?_cons_succ, List.getElem?_cons_zero]
  generalize w3.drew = wd at *
  iterate 12 (refine sch_take ?_ rfl ?_ ?_; rotate_left; (focus (intro u hu; clear hu; go_simp <;> rfl)); simp only [Act.put, List.setIfInBounds_toArray, List.set_cons_zero, List.set_cons_succ])
  refine sch_nil ?_
  go_wp2_with fail
  refine (S1.out _ _ HX.out).mono ?_
  rintro e x0 ⟨rfl, hb0⟩
  have k0 := hw3.trans (hb0.mono hw3.size)
  have HX := Lib.hid (HX.out.below hb0)
  have HY := Lib.hid (HY.out.below hb0)
  have HP := Lib.hid (HP.out.below hb0)
  have HQ := Lib.hid (HQ.out.below hb0)
  clear hb0 hw3
  go_wp2_with fail
  refine (S2.out _ _ HY.out).mono ?_
  rintro e x1 ⟨rfl, hb1⟩
  have k1 := k0.trans (hb1.mono k0.size)
  have HX := Lib.hid (HX.out.below hb1)
  have HY := Lib.hid (HY.out.below hb1)
  have HP := Lib.hid (HP.out.below hb1)
  have HQ := Lib.hid (HQ.out.below hb1)
  clear hb1 k0
  go_wp2_with fail
  refine (S3.out _ _ HP.out).mono ?_
  rintro e x2 ⟨rfl, hb2⟩
  have k2 := k1.trans (hb2.mono k1.size)
  have HX := Lib.hid (HX.out.below hb2)
  have HY := Lib.hid (HY.out.below hb2)
  have HP := Lib.hid (HP.out.below hb2)
  have HQ := Lib.hid (HQ.out.below hb2)
  clear hb2 k1
  go_wp2_with fail
  refine (S4.out _ _ HQ.out).mono ?_
  rintro e x3 ⟨rfl, hb3⟩
  have k3 := k2.trans (hb3.mono k2.size)
  have HX := Lib.hid (HX.out.below hb3)
  have HY := Lib.hid (HY.out.below hb3)
  have HP := Lib.hid (HP.out.below hb3)
  have HQ := Lib.hid (HQ.out.below hb3)
  clear hb3 k2
  go_wp2_with fail
  refine (S5.out _).mono ?_
  rintro e x4 ⟨rfl, hb4⟩
  have k4 := k3.trans (hb4.mono k3.size)
  clear hb4 k3
  go_wp2_with fail
  refine (S6.out _).mono ?_
  rintro e x5 ⟨rfl, hb5⟩
  have k5 := k4.trans (hb5.mono k4.size)
  clear hb5 k4
  go_wp2_with fail
  go_ret
  exact ⟨rfl, k5⟩

set_option maxRecDepth 100000 in
set_option maxHeartbeats 8000000 in
theorem walk_apart (w : World) (s a b : Nat) (hs : s < 18446744073709551616) (ha : a < 18446744073709551616) (hb : b < 18446744073709551616) (hne : a ≠ b) (hm : a % 256 ≠ b % 256) :
    Calls Try.prog 6 #[.int .u64 (s : Int), .int .u64 (a : Int), .int .u64 (b : Int)] w fun e w' => e = .returned (.bool true) ∧ Below w.heap.size w w' := by
  have W1 := Lib.hid (fun w => word_is w (.slice none 0 0) [] a 8 (Byt.nil _) ha (by omega) (by simp))
  have W2 := Lib.hid (fun w => word_is w (.slice none 0 0) [] b 8 (Byt.nil _) hb (by omega) (by simp))
  rw [List.nil_append] at W1 W2
  have S1 := Lib.hid (fun w v hv => sum_any w s v (wordB 8 a) hv hs (by rw [wordB_len]; omega))
  have S2 := Lib.hid (fun w v hv => sum_any w s v (wordB 8 b) hv hs (by rw [wordB_len]; omega))
  have S3 := Lib.hid (fun w v hv => sum_any w s v ((wordB 8 a).take 1) hv hs (by rw [List.length_take]; omega))
  have S4 := Lib.hid (fun w v hv => sum_any w s v ((wordB 8 b).take 1) hv hs (by rw [List.length_take]; omega))
  have S5 := Lib.hid (fun w => sum_any w a (.slice none 0 0) [] (Byt.nil _) ha (by simp))
  have S6 := Lib.hid (fun w => sum_any w b (.slice none 0 0) [] (Byt.nil _) hb (by simp))
  have e0 := ne_int hne
  have e1 := ne_int (fun h => hne (sums_8 s a b ha hb h))
  have e3 := ne_int (fun h => hne (sums_0 a b ha hb h))
  have e2 := ne_int (a := sumW s ((wordB 8 a).take 1)) (b := sumW s ((wordB 8 b).take 1)) (fun h => hm (byte_of a b (sums_1 s _ _ (by rw [take1, take1] at h; exact h))))
  have em : ((a : Int) % 256 == (b : Int) % 256) = false := by rw [beq_eq_false_iff_ne]; omega
  generalize sumW s (wordB 8 a) = y1 at *
  generalize sumW a [] = y5 at *
  generalize sumW s (wordB 8 b) = y2 at *
  generalize sumW b [] = y6 at *
  generalize sumW s ((wordB 8 a).take 1) = y3 at *
  generalize sumW s ((wordB 8 b).take 1) = y4 at *
  clear hs ha hb hne hm
  go_enter Try.func6, Try.ntmps6
  go_wp2_with fail
  refine (lives2_any _).mono ?_
  rintro e w1 ⟨rfl, hb1⟩
  go_wp2_with fail
  refine (W1.out _).mono ?_
  rintro e w2 ⟨v2, rfl, ho2, hb2⟩
  have hw2 := hb1.trans (hb2.mono hb1.size)
  have HX2 := Lib.hid ho2.byt
  clear hb1 hb2 ho2
  go_wp2_with fail
  refine (W2.out _).mono ?_
  rintro e w3 ⟨v3, rfl, ho3, hb3⟩
  have hw3 := (hw2.trans (hb3.mono hw2.size)).drew
  obtain ⟨A2, n2, c2, rfl, N2, l2, m2⟩ := (HX2.out.below hb3).form
  obtain ⟨A3, n3, c3, rfl, N3, l3, m3⟩ := ho3.byt.form
  have hn2 : n2 = 8 := by have := N2.out; rw [wordB_len] at this; exact this
  have hn3 : n3 = 8 := by have := N3.out; rw [wordB_len] at this; exact this
  subst hn2
  subst hn3
  have HX := Lib.hid (show Byt w3.drew _ _ from (HX2.out.below hb3).drew)
  have HY := Lib.hid (show Byt w3.drew _ _ from ho3.byt.drew)
  have HP := Lib.hid (HX.out.upto (k := 1) (by omega))
  have HQ := Lib.hid (HY.out.upto (k := 1) (by omega))
  clear ho3 hb3 hw2 HX2 N2 N3
  have q2 : (1 : Int) ≤ (c2 : Int) := by omega
  have q3 : (1 : Int) ≤ (c3 : Int) := by omega
  go_wp2_with fail
  refine wp_region_R (R := fun x y => x = y) (by kernel_rfl) (fun _ => rfl) (fun h k => h.trans k) (by kernel_rfl) (fun d v c a w h => by cases d <;> exact h)
    [(0, false), (1, false), (2, false), (3, false), (4, false), (5, false), (6, false), (7, false), (8, false), (9, false), (10, false), (11, false)] rfl (by kernel_rfl) (by kernel_rfl) ?_
  simp only [sel, List.getElem?_toArray, List.getElem?_cons_succ, List.getElem?_cons_zero]
  generalize w3.drew = wd at *
  iterate 12 (refine sch_take ?_ rfl ?_ ?_; rotate_left; (focus (intro u hu; clear hu; go_simp <;> rfl)); simp only [Act.put, List.setIfInBounds_toArray, List.set_cons_zero, List.set_cons_succ])
  refine sch_nil ?_
  go_wp2_with fail
  refine (S1.out _ _ HX.out).mono ?_
  rintro e x0 ⟨rfl, hb0⟩
  have k0 := hw3.trans (hb0.mono hw3.size)
  have HX := Lib.hid (HX.out.below hb0)
  have HY := Lib.hid (HY.out.below hb0)
  have HP := Lib.hid (HP.out.below hb0)
  have HQ := Lib.hid (HQ.out.below hb0)
  clear hb0 hw3
  go_wp2_with fail
  refine (S2.out _ _ HY.out).mono ?_
  rintro e x1 ⟨rfl, hb1⟩
  have k1 := k0.trans (hb1.mono k0.size)
  have HX := Lib.hid (HX.out.below hb1)
  have HY := Lib.hid (HY.out.below hb1)
  have HP := Lib.hid (HP.out.below hb1)
  have HQ := Lib.hid (HQ.out.below hb1)
  clear hb1 k0
  go_wp2_with fail
  refine (S3.out _ _ HP.out).mono ?_
  rintro e x2 ⟨rfl, hb2⟩
  have k2 := k1.trans (hb2.mono k1.size)
  have HX := Lib.hid (HX.out.below hb2)
  have HY := Lib.hid (HY.out.below hb2)
  have HP := Lib.hid (HP.out.below hb2)
  have HQ := Lib.hid (HQ.out.below hb2)
  clear hb2 k1
  go_wp2_with fail
  refine (S4.out _ _ HQ.out).mono ?_
  rintro e x3 ⟨rfl, hb3⟩
  have k3 := k2.trans (hb3.mono k2.size)
  have HX := Lib.hid (HX.out.below hb3)
  have HY := Lib.hid (HY.out.below hb3)
  have HP := Lib.hid (HP.out.below hb3)
  have HQ := Lib.hid (HQ.out.below hb3)
  clear hb3 k2
  go_wp2_with fail
  refine (S5.out _).mono ?_
  rintro e x4 ⟨rfl, hb4⟩
  have k4 := k3.trans (hb4.mono k3.size)
  clear hb4 k3
  go_wp2_with fail
  refine (S6.out _).mono ?_
  rintro e x5 ⟨rfl, hb5⟩
  have k5 := k4.trans (hb5.mono k4.size)
  clear hb5 k4
  go_wp2_with fail
  go_ret
  exact ⟨rfl, k5⟩

theorem walk (w : World) (s a b : Nat) (hs : s < 18446744073709551616) (ha : a < 18446744073709551616) (hb : b < 18446744073709551616) :
    Calls Try.prog 6 #[.int .u64 (s : Int), .int .u64 (a : Int), .int .u64 (b : Int)] w fun e w' => e = .returned (.bool true) ∧ Below w.heap.size w w' := by
  by_cases hab : a = b
  · subst hab; exact walk_eq w s a hs ha
  · by_cases hm : a % 256 = b % 256
    · exact walk_same w s a b hs ha hb hab hm
    · exact walk_apart w s a b hs ha hb hab hm

set_option maxRecDepth 100000 in
theorem lifted (os : Os) (started : os.Started) (H : Type) (enc : TypeId × Value → H) :
    ReturnsInHanded {} Try.checked os 6 .any (Rows.xhashBytesSpec.pre6 enc Try.prog Try.f6 Rows.xhashBytesRow.domain false) (Rows.xhashBytesSpec.post enc Try.prog Try.f6 false true false false) := by
  refine returnsInHanded_of_change (C := Try.checked) ownKnobs started (by kernel_rfl) Try.func6
    (ChangeSpec.witness6 (enc := enc) (C := Try.checked) false ⟨#[], #[.int .u64 0, .int .u64 0, .int .u64 0], []⟩ 8 (by kernel_rfl) (by kernel_rfl) (by kernel_rfl) (by kernel_rfl)) ?_
  intro W base args ds gs before hval0 hW hcnd _
  have hval : ∀ (j : Nat) t v, Try.f6.params[j]? = some t → args[j]? = some v → Value.okWide Try.prog W .any base t v := hval0
  have hW' := hW
  obtain ⟨p, q, hA0, hV, rfl, hfz, hnd⟩ := hW
  have hA : DataW.TrodAll enc Try.prog W 0 (fun _ => true) true Try.f6.params.toList args.toList ds p := hA0
  rw [Try.params6] at hA hval
  obtain ⟨v0, vs0, d0, ds0, p0, q0, hargs, rfl, rfl, h0, r0⟩ := trodAll_cons hA
  obtain ⟨v1, vs1, d1, ds1, p1, q1, rfl, rfl, rfl, h1, r1⟩ := trodAll_cons r0
  obtain ⟨v2, vs2, d2, ds2, p2, q2, rfl, rfl, rfl, h2, r2⟩ := trodAll_cons r1
  obtain ⟨rfl, rfl, rfl⟩ := trodAll_nil r2
  obtain rfl : args = #[v0, v1, v2] := by cases args; simp_all
  obtain ⟨rfl, rfl⟩ := trodVars_none hV
  obtain ⟨a0, rfl, rfl, rfl, w0⟩ := open_int Try.underlying23 (hval 0 23 v0 rfl rfl) h0
  obtain ⟨n0, rfl, b0⟩ := open_u64 w0
  obtain ⟨a1, rfl, rfl, rfl, w1⟩ := open_int Try.underlying23 (hval 1 23 v1 rfl rfl) h1
  obtain ⟨n1, rfl, b1⟩ := open_u64 w1
  obtain ⟨a2, rfl, rfl, rfl, w2⟩ := open_int Try.underlying23 (hval 2 23 v2 rfl rfl) h2
  obtain ⟨n2, rfl, b2⟩ := open_u64 w2
  clear hA0 hval0
  refine (walk W n0 n1 n2 b0 b1 b2).mono fun e W' ⟨he, bel⟩ => ?_
  subst he
  exact ⟨_, rfl, _, _, _, [], _, [], hW', trodAll_mk1 (shut_bool Try.underlying4 _), (trodAll_cons_mk (shut_int Try.underlying23 w0) (trodAll_cons_mk (shut_int Try.underlying23 w1) (trodAll_cons_mk (shut_int Try.underlying23 w2) trodAll_mk0))), rfl, bel.frame _, fun h => by cases h⟩

theorem over : Rows.xhashBytesRow.holds Try.pinned (OpenSpec.ofChange Rows.xhashBytesSpec) :=
  OpenClaim.holds_of_wide 6 Try.f6 rfl rfl rfl rfl rfl rfl rfl ⟨rfl, rfl, rfl, rfl, rfl⟩ rfl rfl rfl rfl rfl (by kernel_rfl) Try.func6 (by kernel_rfl)
    (of_decide_eq_true (by kernel_rfl)) (by unfold Func.isWrapper; first | (rw [if_pos (by decide +kernel)]; kernel_rfl) | (rw [if_neg (by decide +kernel)]; exact ⟨rfl, rfl⟩))
    (fun os started H enc _ => lifted os started H enc)

theorem proved : Rows.XhashBytesSaid := over
#print axioms proved
end Go.Proofs.Ytafpnckpeaggcaa.xhashBytes
