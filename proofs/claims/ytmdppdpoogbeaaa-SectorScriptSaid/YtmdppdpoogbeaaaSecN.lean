/-
  The examples that each statement of layer 4 asks first. Conditions: none.
-/
import Derived.Test.YtmdppdpoogbeaaaSecM
namespace Go.Proofs.Ytmdppdpoogbeaaa
open Go.RowKit Go.Maps

/-! The disk of the examples. -/
theorem secs_write (s : St) (n : Nat) (l : List UInt8) : secs (writeS s n l) = secs s := rfl
theorem write_done (s : St) (n : Nat) (l : List UInt8) (hF : s.F = none) (hn : n < secs s) (hl : l.length = 512) : writeR s (n : Int) l = (0, writeS s n l) := by
  obtain ⟨B, C, F⟩ := s
  have hF' : F = none := hF
  subst hF'
  unfold writeR
  rw [if_pos ⟨⟨by omega, by omega⟩, hl⟩]
  rfl
theorem read_done (s : St) (n : Nat) (hF : s.F = none) (hn : n < secs s) : readR s (n : Int) = (readB s n, 0, s) := by
  obtain ⟨B, C, F⟩ := s
  have hF' : F = none := hF
  subst hF'
  unfold readR
  rw [if_pos ⟨by omega, by omega⟩]
  rfl
theorem read_crash (s : St) (keep : List Bool) (torn bytes : Int) (n : Nat) : readB (crashS s keep torn bytes) n = sectB (crashS s keep torn bytes).B n := rfl
theorem crash_two (s : St) (n1 n2 : Nat) (l1 l2 : List UInt8) (hC : s.C = [(n1, l1), (n2, l2)]) (keep : List Bool) (torn bytes : Int) :
    (crashS s keep torn bytes).B = splice (splice s.B (512 * n1) (l1.take (keptN keep torn bytes 0))) (512 * n2) (l2.take (keptN keep torn bytes 1)) := by
  obtain ⟨B, C, F⟩ := s
  have hC' : C = _ := hC
  subst hC'
  rfl
def ex0 : St := newS 4
def ex1 : St := writeS ex0 2 (rowB 97)
def ex2 : St := writeS ex1 0 (rowB 98)
def ex3 : St := crashS ex2 [true] 1 3
theorem ex_s0 : secs ex0 = 4 := secs_new 4
theorem ex_s1 : secs ex1 = 4 := by unfold ex1; rw [secs_write, ex_s0]
theorem ex_s2 : secs ex2 = 4 := by unfold ex2; rw [secs_write, ex_s1]
theorem ex_w1 : writeR ex0 (2 : Int) (rowB 97) = (0, ex1) := write_done ex0 2 (rowB 97) rfl (by rw [ex_s0]; omega) (rowB_len 97)
theorem ex_w2 : writeR ex1 (0 : Int) (rowB 98) = (0, ex2) := write_done ex1 0 (rowB 98) rfl (by rw [ex_s1]; omega) (rowB_len 98)
theorem ex_keys : keysC ex2.C = [2, 0] := rfl
theorem ex_ok0 : OkSt ex0 := OkSt.new (by omega) (by omega)
theorem ex_ok1 : OkSt ex1 := ex_ok0.write (by rw [ex_s0]; omega) (rowB_len 97)
theorem ex_ok2 : OkSt ex2 := ex_ok1.write (by rw [ex_s1]; omega) (rowB_len 98)
theorem ex_s3 : secs ex3 = 4 := by
  have h : secs ex3 = secs (settleS (keptN [true] 1 3) ex2) := rfl
  rw [h, secs_settle _ ex_ok2, ex_s2]
theorem ex_B2 : ex2.B = List.replicate 2048 0 := rfl
theorem ex_len2 : ex2.B.length = 2048 := by rw [ex_B2, List.length_replicate]
theorem ex_B3 : ex3.B = splice (splice (List.replicate 2048 0) 1024 (rowB 97)) 0 [98, 98, 98] := by
  unfold ex3
  rw [crash_two ex2 2 0 (rowB 97) (rowB 98) rfl]
  have h0 : keptN [true] 1 3 0 = 512 := by decide
  have h1 : keptN [true] 1 3 1 = 3 := by decide
  have e0 : (rowB 97).take 512 = rowB 97 := List.take_of_length_le (by rw [rowB_len]; exact Nat.le_refl _)
  have e1 : (rowB 98).take 3 = [98, 98, 98] := by unfold rowB; rw [List.take_replicate]; rfl
  rw [h0, h1, e0, e1, ex_B2]
theorem ex_r2 : readR ex3 (2 : Int) = (rowB 97, 0, ex3) := by
  have h0 : readR ex3 (2 : Int) = (readB ex3 2, 0, ex3) := read_done ex3 2 rfl (by rw [ex_s3]; omega)
  have h : readB ex3 2 = rowB 97 := by
    have h1 : readB ex3 2 = sectB ex3.B 2 := read_crash ex2 _ _ _ 2
    rw [h1, ex_B3]
    unfold sectB splice
    have l1 : (rowB 97).length = 512 := rowB_len 97
    rw [List.take_zero, List.nil_append, List.drop_append, List.drop_drop, List.length_cons, List.length_cons, List.length_cons, List.length_nil]
    rw [show (512 * 2 - (0 + 1 + 1 + 1)) + (0 + (0 + 1 + 1 + 1)) = 1024 by omega]
    rw [List.drop_of_length_le (show [(98 : UInt8), 98, 98].length ≤ 512 * 2 by decide), List.nil_append]
    rw [List.drop_append, List.drop_of_length_le (by rw [List.length_take, List.length_replicate]; omega), List.nil_append, List.length_take, List.length_replicate, show 1024 - min 1024 2048 = 0 by omega, List.drop_zero]
    rw [List.take_append, l1, Nat.sub_self, List.take_zero, List.append_nil, List.take_of_length_le (by rw [l1]; exact Nat.le_refl _)]
  rw [h0, h]
theorem ex_r0 : ∃ l, readR ex3 (0 : Int) = (l, 0, ex3) ∧ l.take 4 = [98, 98, 98, 0] ∧ l.length = 512 := by
  refine ⟨readB ex3 0, ?_, ?_, ?_⟩
  · exact read_done ex3 0 rfl (by rw [ex_s3]; omega)
  · have h1 : readB ex3 0 = sectB ex3.B 0 := read_crash ex2 _ _ _ 0
    rw [h1, ex_B3]
    unfold sectB
    rw [Nat.mul_zero, List.drop_zero, List.take_take, show min 4 512 = 4 by decide]
    obtain ⟨Y, hY⟩ : ∃ Y, splice (List.replicate 2048 (0 : UInt8)) 1024 (rowB 97) = 0 :: 0 :: 0 :: 0 :: Y := by
      unfold splice
      rw [List.take_replicate, show min 1024 2048 = 1020 + 1 + 1 + 1 + 1 by decide, List.replicate_succ, List.replicate_succ, List.replicate_succ, List.replicate_succ]
      exact ⟨_, rfl⟩
    rw [hY]
    rfl
  · have h3 : OkSt ex3 := ex_ok2.crash _ _ _
    exact readB_len h3 (by rw [ex_s3]; omega)

theorem write_any (w : World) (S : Nat → Prop) (g : Nat) (s : St) (x : Int) (v : Value) (l : List UInt8) (h : Dsk w S g s) (hv : Byt w v l) (hne : ∀ k, v.ownBlock = some k → ¬ S k) :
    Calls Try.prog 18 #[.pointer (some ⟨g, 0, none⟩), .int .i64 x, v] w (Done w S g (writeR s x l)) := by
  by_cases hx : (0 ≤ x ∧ x < ((secs s : Nat) : Int)) ∧ l.length = 512
  · obtain ⟨n, rfl⟩ := Int.eq_ofNat_of_zero_le hx.1.1
    exact write_ok w S g s n v l h hv hne (by have := hx.1.2; omega) hx.2
  · exact write_bad w S g s x v l h hv hx
theorem Rowz.lit (w : World) (e : TypeId) (vs : List Value) (hl : vs.length ≤ maxLen) : Rowz (w.alloc (.cells vs.toArray e)) (.slice (some ⟨w.heap.size, 0, none⟩) vs.length vs.length) vs := by
  refine ⟨_, vs.length, rfl, Nat.le_refl _, hl, .inr ⟨w.heap.size, 0, rfl, by simp, fun j hj => ?_⟩⟩
  rw [Nat.zero_add, cell_of_row _ _ _ _ _ _ (heap_alloc_new w _)]
  simp [hj]
/-- 'string(v)', to be laid ahead of a walk. -/
theorem stext_of {w : World} {v : Value} {l : List UInt8} (h : Byt w v l) : (convert 37 9 v).run Try.prog w = .ok (.string ⟨l.toArray⟩) w :=
  run_text w 37 9 5 Try.underlying37 Try.underlying5 Try.underlying9 v l h
/-- A disk's blocks are all of the call's own. -/
theorem Done.own {w : World} {S : Nat → Prop} {g : Nat} {r : Nat × St} {e : Ending} {w' : World} {B : Nat} (h : Done w S g r e w') (hB : B ≤ w.heap.size) (hS : ∀ k, S k → B ≤ k) :
    e = .returned (.int .i64 ((r.1 : Nat) : Int)) ∧ ∃ S', Dsk w' S' g r.2 ∧ (∀ k, S' k → B ≤ k) ∧ (∀ k, S' k → k < w.heap.size → S k) ∧ Trn S w w' :=
  ⟨h.1, more S w w', h.2.1, fun k hk => hk.elim (hS k) (fun hk => Nat.le_trans hB hk.1), fun _ hk hl => hk.elim id (fun hk => by omega), h.2.2⟩

set_option maxRecDepth 100000 in
set_option maxHeartbeats 4000000 in
theorem lives4_any (w : World) : Calls Try.prog 4 #[] w fun e w' => e = .returned (.bool true) ∧ Below w.heap.size w w' := by
  have C0 : Hid (∀ w, Calls Try.prog 6 #[.int .i64 4] w (Disked w ex0)) := fun w => snew_any w 4 (by omega) (by omega)
  have RA : Hid (∀ w, Calls Try.prog 28 #[.int .u8 97] w (Made w (rowB 97))) := fun w => lrow_any w 97
  have RB : Hid (∀ w, Calls Try.prog 28 #[.int .u8 98] w (Made w (rowB 98))) := fun w => lrow_any w 98
  have W1 : Hid (∀ w S g v, Dsk w S g ex0 → Byt w v (rowB 97) → (∀ k, v.ownBlock = some k → ¬ S k) → Calls Try.prog 18 #[.pointer (some ⟨g, 0, none⟩), .int .i64 2, v] w (Done w S g (0, ex1))) := fun w S g v h1 h2 h3 => ex_w1 ▸ write_any w S g ex0 2 v _ h1 h2 h3
  have W2 : Hid (∀ w S g v, Dsk w S g ex1 → Byt w v (rowB 98) → (∀ k, v.ownBlock = some k → ¬ S k) → Calls Try.prog 18 #[.pointer (some ⟨g, 0, none⟩), .int .i64 0, v] w (Done w S g (0, ex2))) := fun w S g v h1 h2 h3 => ex_w2 ▸ write_any w S g ex1 0 v _ h1 h2 h3
  have CA : Hid (∀ w S g, Dsk w S g ex2 → Calls Try.prog 22 #[.pointer (some ⟨g, 0, none⟩)] w (MadeI w [2, 0])) := fun w S g h => ex_keys ▸ cached_is w S g ex2 h
  have LA := Lib.hid (rowB_len 97)
  have LB := Lib.hid (rowB_len 98)
  have L2 := Lib.hid ex_len2
  have Z2 : Hid (∀ h : 0 < ex2.B.length, (ex2.B[0]'h).toNat = 0) := fun h => by
    have e : ex2.B[0] = 0 := by simp [ex_B2]
    rw [e]; rfl
  have KI : Hid (∀ w va vb, Rowz w va (inz [2, 0]) → Rowz w vb (inz [2, 0]) → Calls Try.prog 21 #[va, vb] w fun e w' => e = .returned (.bool true) ∧ Below w.heap.size w w') := fun w va vb h1 h2 => kints_any w va vb [2, 0] [2, 0] h1 h2
  have IM : Hid (∀ w S g, Dsk w S g ex2 → Calls Try.prog 24 #[.pointer (some ⟨g, 0, none⟩)] w (Made w ex2.B)) := fun w S g h => image_is w S g ex2 h
  have CR : Hid (∀ w S g v, Dsk w S g ex2 → Rowz w v [.bool true] → (∀ k, v.ownBlock = some k → ¬ S k) → Calls Try.prog 15 #[.pointer (some ⟨g, 0, none⟩), .agg #[v, .int .i64 1, .int .i64 3]] w (Done w S g (0, ex3))) := fun w S g v h1 h2 h3 => crash_is w S g ex2 v [true] 1 3 h1 h2 h3
  have R2 : Hid (∀ w S g, Dsk w S g ex3 → Calls Try.prog 9 #[.pointer (some ⟨g, 0, none⟩), .int .i64 2] w (Red w S g (rowB 97, 0, ex3))) := fun w S g h => ex_r2 ▸ read_is w S g ex3 2 h
  obtain ⟨l0, hl0, ht0, hn0⟩ := ex_r0
  have R0 : Hid (∀ w S g, Dsk w S g ex3 → Calls Try.prog 9 #[.pointer (some ⟨g, 0, none⟩), .int .i64 0] w (Red w S g (l0, 0, ex3))) := fun w S g h => hl0 ▸ read_is w S g ex3 0 h
  have HT0 := Lib.hid ht0
  have HN0 := Lib.hid hn0
  clear hl0 ht0 hn0
  generalize rowB 97 = ra at *
  generalize rowB 98 = rb at *
  go_enter Try.func4, Try.ntmps4
  go_wp2_with fail
  refine (C0.out _).mono ?_
  rintro e w1 ⟨g, rfl, hd1, hb1⟩
  obtain ⟨S1, HD1, HS1⟩ : ∃ S1, Hid (Dsk w1 S1 g ex0) ∧ Hid (∀ k, S1 k → w.heap.size ≤ k) := ⟨_, hd1, fun k hk => hk.1⟩
  have HB1 := Lib.hid hb1
  clear hd1 hb1
  go_wp2_with fail
  refine (RA.out _).mono ?_
  rintro e w2 ⟨v2, rfl, hown2, hb2⟩
  have HV2 := Lib.hid hown2
  have HD2 := Lib.hid (HD1.out.below hb2)
  have HB2 := Lib.hid (HB1.out.trans (hb2.mono HB1.out.size))
  have HN2 : Hid (∀ k, v2.ownBlock = some k → ¬ S1 k) := fun k hk hs => by have := (World.ownsRow.lt hown2 k hk).1; have := HD1.out.lt k hs; omega
  clear hown2 hb2
  go_wp2_with fail
  refine (W1.out _ S1 g v2 HD2.out HV2.out.byt HN2.out).mono ?_
  intro e w3 hdone
  obtain ⟨rfl, S3, hd3, hS3, _, ht3⟩ := hdone.own HB2.out.size HS1.out
  have HD3 := Lib.hid hd3
  have HS3 := Lib.hid hS3
  have HB3 := Lib.hid (HB2.out.trans (ht3.below HB2.out.size HS1.out))
  clear hdone hd3 hS3 ht3 HD2 HN2 HV2
  go_wp2_with fail
  refine (RB.out _).mono ?_
  rintro e w4 ⟨v4, rfl, hown4, hb4⟩
  have HV4 := Lib.hid hown4
  have HD4 := Lib.hid (HD3.out.below hb4)
  have HB4 := Lib.hid (HB3.out.trans (hb4.mono HB3.out.size))
  have HN4 : Hid (∀ k, v4.ownBlock = some k → ¬ S3 k) := fun k hk hs => by have := (World.ownsRow.lt hown4 k hk).1; have := HD3.out.lt k hs; omega
  clear hown4 hb4
  go_wp2_with fail
  refine (W2.out _ S3 g v4 HD4.out HV4.out.byt HN4.out).mono ?_
  intro e w5 hdone
  obtain ⟨rfl, S5, hd5, hS5, _, ht5⟩ := hdone.own HB4.out.size HS3.out
  have HD5 := Lib.hid hd5
  have HS5 := Lib.hid hS5
  have HB5 := Lib.hid (HB4.out.trans (ht5.below HB4.out.size HS3.out))
  clear hdone hd5 hS5 ht5 HD4 HN4 HV4 HD3 HD1 HS1 HS3
  go_wp2_with fail
  refine (CA.out _ S5 g HD5.out).mono ?_
  rintro e w6 ⟨v6, rfl, hown6, hb6⟩
  have HV6 := Lib.hid (ints_rowz hown6)
  have HD6 := Lib.hid (HD5.out.below hb6)
  have HB6 := Lib.hid (HB5.out.trans (hb6.mono HB5.out.size))
  clear hown6 hb6
  go_wp2_with fail
  refine (KI.out _ _ _ (HV6.out.below (below_new w6 _)) (Rowz.lit w6 3 (inz [2, 0]) (by simp [maxLen, inz]))).mono ?_
  rintro e w7 ⟨rfl, hb7⟩
  have hb67 : Below w6.heap.size w6 w7 := (below_new w6 _).trans (hb7.mono (by simp))
  have HD7 := Lib.hid (HD6.out.below hb67)
  have HB7 := Lib.hid (HB6.out.trans (hb67.mono HB6.out.size))
  clear hb67 hb7 HV6 HD6
  go_wp2_with fail
  refine (IM.out _ S5 g HD7.out).mono ?_
  rintro e w8 ⟨v8, rfl, hown8, hb8⟩
  obtain ⟨A8, n8, c8, rfl, N8, _, _⟩ := hown8.byt.form
  obtain rfl : n8 = 2048 := N8.out.trans L2.out
  have HD8 := Lib.hid (HD7.out.below hb8)
  have HB8 := Lib.hid (HB7.out.trans (hb8.mono HB7.out.size))
  clear hown8 hb8 N8 HD7
  go_wp2_with fail
  refine (IM.out _ S5 g HD8.out).mono ?_
  rintro e w9 ⟨v9, rfl, hown9, hb9⟩
  obtain ⟨A9, n9, c9, rfl, N9, _, _⟩ := hown9.byt.form
  obtain ⟨b9, o9, rfl, _, hc9⟩ := hown9.byt.at (k := 0) (by rw [L2.out]; omega)
  have d9' := hc9 0 (by rw [L2.out]; omega)
  rw [Z2.out] at d9'
  have d9 : w9.cell? ⟨b9, o9, none⟩ = some (.int .u8 0) := d9'
  clear d9'
  obtain rfl : n9 = 2048 := N9.out.trans L2.out
  have HD9 := Lib.hid (HD8.out.below hb9)
  have HB9 := Lib.hid (HB8.out.trans (hb9.mono HB8.out.size))
  clear hown9 hb9 N9 HD8 hc9
  go_wp2_with fail
  refine (CR.out _ S5 g _ (HD9.out.below (below_new w9 _)) (Rowz.lit w9 4 [.bool true] (by simp [maxLen])) (fun k hk hs => by
    have := HD9.out.lt k hs
    simp [Value.ownBlock] at hk
    omega)).mono ?_
  intro e w10 hdone
  have hb10 : Below w.heap.size w (w9.alloc (.cells #[.bool true] 4)) := HB9.out.alloc HB9.out.size _
  obtain ⟨rfl, S10, hd10, hS10, _, ht10⟩ := hdone.own hb10.size HS5.out
  have HD10 := Lib.hid hd10
  have HS10 := Lib.hid hS10
  have HB10 := Lib.hid (hb10.trans (ht10.below hb10.size HS5.out))
  clear hdone hd10 hS10 ht10 hb10 HD9 d9
  go_wp2_with fail
  refine (R2.out _ S10 g HD10.out).mono ?_
  rintro e w11 ⟨v11, rfl, hown11, hd11, ht11⟩
  have HV11 := Lib.hid hown11.byt
  have HD11 := Lib.hid hd11
  have HN11 : Hid (∀ k, v11.ownBlock = some k → ¬ S10 k) := fun k hk hs => by have := (World.ownsRow.lt hown11 k hk).1; have := HD10.out.lt k hs; omega
  have HB11 := Lib.hid (HB10.out.trans (ht11.below HB10.out.size HS10.out))
  clear hown11 hd11 ht11
  go_wp2_with fail
  refine (R0.out _ S10 g HD11.out).mono ?_
  rintro e w12 ⟨v12, rfl, hown12, hd12, ht12⟩
  have HVA := Lib.hid (show Byt w12.drew v11 ra from (HV11.out.trn ht12 HN11.out).drew)
  obtain ⟨A12, n12, c12, rfl, N12, hnc12, hcm12⟩ := hown12.byt.form
  obtain rfl : n12 = 512 := N12.out.trans HN0.out
  have hv0 : Byt w12.drew (.slice A12 4 c12) [98, 98, 98, 0] := by
    have h := (hown12.byt.upto (k := 4) (by omega)).drew
    simp only [HT0.out] at h
    exact h
  have HV0 := Lib.hid hv0
  have HWD := Lib.hid (show Below w.heap.size w w12.drew from (HB11.out.trans (ht12.below HB11.out.size HS10.out)).drew)
  have h4c : (4 : Int) ≤ (c12 : Int) := by omega
  clear hown12 hd12 ht12 N12 hv0 HV11 HN11 HB11
  obtain ⟨A11, n11, c11, rfl, N11, hnc11, hcm11⟩ := HVA.out.form
  clear N11
  go_wp2_with fail
  refine wp_region_R (R := fun x y => Below x.heap.size x y) (by kernel_rfl) (fun _ => Below.refl _ _) (fun h k => h.trans (k.mono h.size)) (by kernel_rfl) (fun d v c a w h => by cases d <;> exact h)
    [(0, false), (1, false), (2, false), (3, false), (4, false), (5, false), (6, false), (7, false), (8, false), (9, true), (10, false), (11, false), (12, false), (13, false), (14, false), (15, false), (16, false), (17, false), (18, false), (19, false), (20, false), (21, false), (22, false)] rfl (by kernel_rfl) (by kernel_rfl) ?_
  simp only [sel, List.getElem?_toArray, List.getElem?_cons_succ, List.getElem?_cons_zero]
  generalize w12.drew = wd at *
  iterate 8 (refine sch_take ?_ rfl ?_ ?_; rotate_left; (focus (intro u hu; go_simp <;> rfl)); simp only [Act.put, List.setIfInBounds_toArray, List.set_cons_zero, List.set_cons_succ])
  (refine sch_take ?_ rfl ?_ ?_; rotate_left; (focus (intro u hu; have tx := stext_of (HVA.out.below hu); clear hu; go_simp <;> rfl)); simp only [Act.put, List.setIfInBounds_toArray, List.set_cons_zero, List.set_cons_succ])
  refine sch_call rfl ?_
  intro K hK
  go_simp
  refine (RA.out _).mono ?_
  rintro e y1 ⟨vr, rfl, hownr, hbr⟩
  go_wp2_with fail
  refine hK _ _ hbr ?_
  clear hK K
  have HRR := Lib.hid hownr.byt
  have HVA := Lib.hid (HVA.out.below hbr)
  have HV0 := Lib.hid (HV0.out.below hbr)
  have HWD := Lib.hid (HWD.out.trans (hbr.mono HWD.out.size))
  clear hownr hbr
  (refine sch_take ?_ rfl ?_ ?_; rotate_left; (focus (intro u hu; have tx := stext_of (HRR.out.below hu); clear hu; go_simp <;> rfl)); simp only [Act.put, List.setIfInBounds_toArray, List.set_cons_zero, List.set_cons_succ])
  iterate 8 (refine sch_take ?_ rfl ?_ ?_; rotate_left; (focus (intro u hu; go_simp <;> rfl)); simp only [Act.put, List.setIfInBounds_toArray, List.set_cons_zero, List.set_cons_succ])
  (refine sch_take ?_ rfl ?_ ?_; rotate_left; (focus (intro u hu; have tx := stext_of (HV0.out.below hu); clear hu; go_simp <;> rfl)); simp only [Act.put, List.setIfInBounds_toArray, List.set_cons_zero, List.set_cons_succ])
  iterate 3 (refine sch_take ?_ rfl ?_ ?_; rotate_left; (focus (intro u hu; go_simp <;> rfl)); simp only [Act.put, List.setIfInBounds_toArray, List.set_cons_zero, List.set_cons_succ])
  refine sch_nil ?_
  go_wp2_with fail
  go_ret
  exact ⟨rfl, HWD.out⟩
end Go.Proofs.Ytmdppdpoogbeaaa
