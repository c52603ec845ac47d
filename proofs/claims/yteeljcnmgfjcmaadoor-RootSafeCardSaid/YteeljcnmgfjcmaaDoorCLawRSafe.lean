/-
  The statement RootSafe: while the next root is written over the elder one, the one that counts is found, or the next one, whatever a crash leaves. Conditions: none.
-/
import Derived.Test.YteeljcnmgfjcmaaDoorMg10
namespace Go.Proofs.YteeljcnmgfjcmaaDoor.rootSafe
open Go.ChangeShapes Go.WideShapes Go.ChangeAt Go.RowKit Go.Maps
set_option maxRecDepth 100000
set_option linter.unusedVariables false

set_option maxRecDepth 100000 in
set_option maxHeartbeats 40000000 in
theorem walk_great (w : World) (ra rb rn : Rt) (ep : Nat) (vk : Value) (keep : List Bool) (torn bytes : Int) (ha : ra.Wf) (hb : rb.Wf) (hn : rn.Wf) (hep : ep < 18446744073709551616) (hk : Rowz w vk (keep.map Value.bool)) (h : 100 < keep.length) :
    Calls Tryd.prog 6 #[.agg (rtV ra), .agg (rtV rb), .agg (rtV rn), .int .u64 (ep : Int), .agg (crashV vk torn bytes)] w fun e w' => e = .returned (.bool true) ∧ Below w.heap.size w w' := by
  have Z := rtZero
  obtain ⟨A2, m2, c2, rfl, N2, hnc2, hcm2⟩ := hk.form
  have HN0 := Lib.hid (Four.new w ra rb rn (.slice A2 m2 c2) torn bytes)
  obtain ⟨w0, hw0⟩ : ∃ w0, (((w.alloc (.cells (rtV ra) 29)).alloc (.cells (rtV rb) 29)).alloc (.cells (rtV rn) 29)).alloc (.cells (crashV (.slice A2 m2 c2) torn bytes) 50) = w0 := ⟨_, rfl⟩
  rw [hw0] at HN0
  have HW0 := Lib.hid hw0
  have HK := Lib.hid hk
  have WA := Lib.hid ha
  have WB := Lib.hid hb
  have WN := Lib.hid hn
  have LC : Hid (∀ w', Rowz w' (.slice A2 m2 c2) (keep.map Value.bool) → Calls Tryd.prog 25 #[.agg (crashV (.slice A2 m2 c2) torn bytes), .int .i64 100] w' fun e w'' => e = .returned (.bool (decide ((keep.length : Int) ≤ 100))) ∧ Below w'.heap.size w' w'') := fun w' h' => light_any w' _ keep torn bytes 100 h'
  clear hk hw0 ha hb hn
  unfold crashV at LC HW0 ⊢
  go_enter Tryd.func6, Tryd.ntmps6
  go_wp2_with fail
  rw [HW0.out]
  clear HW0
  refine (lives6_any _).mono ?_
  rintro e w1 ⟨rfl, hb1⟩
  have HN1 := Lib.hid (HN0.out.below hb1)
  clear hb1 HN0
  obtain ⟨d0, d1, d2⟩ := HN1.out.c.cells
  go_wp2_with fail
  clear d0 d1 d2
  refine (LC.out _ (HK.out.below HN1.out.bel)).mono ?_
  rintro e w2 ⟨rfl, hb2⟩
  have HN2 := Lib.hid (HN1.out.below hb2)
  clear hb2 HN1 LC
  rw [show decide ((keep.length : Int) ≤ 100) = false from decide_eq_false (by omega)]
  go_wp2_with fail
  go_ret
  exact ⟨rfl, HN2.out.bel⟩
set_option maxRecDepth 100000 in
set_option maxHeartbeats 40000000 in
theorem walk_few (w : World) (ra rb rn : Rt) (ep : Nat) (vk : Value) (keep : List Bool) (torn bytes : Int) (ha : ra.Wf) (hb : rb.Wf) (hn : rn.Wf) (hep : ep < 18446744073709551616) (hk : Rowz w vk (keep.map Value.bool)) (h : keep.length ≤ 100) :
    Calls Tryd.prog 6 #[.agg (rtV ra), .agg (rtV rb), .agg (rtV rn), .int .u64 (ep : Int), .agg (crashV vk torn bytes)] w fun e w' => e = .returned (.bool true) ∧ Below w.heap.size w w' := by
  have Z := rtZero
  obtain ⟨A2, m2, c2, rfl, N2, hnc2, hcm2⟩ := hk.form
  have HN0 := Lib.hid (Four.new w ra rb rn (.slice A2 m2 c2) torn bytes)
  obtain ⟨w0, hw0⟩ : ∃ w0, (((w.alloc (.cells (rtV ra) 29)).alloc (.cells (rtV rb) 29)).alloc (.cells (rtV rn) 29)).alloc (.cells (crashV (.slice A2 m2 c2) torn bytes) 50) = w0 := ⟨_, rfl⟩
  rw [hw0] at HN0
  have HW0 := Lib.hid hw0
  have HK := Lib.hid hk
  have WA := Lib.hid ha
  have WB := Lib.hid hb
  have WN := Lib.hid hn
  have KC : Hid (∀ w', Rowz w' (.slice A2 m2 c2) (keep.map Value.bool) → Calls Tryd.prog 28 #[.agg (crashV (.slice A2 m2 c2) torn bytes)] w' (CrashOwn w' keep torn bytes)) := fun w' h' => kcrash_any w' _ keep torn bytes h' h
  have LC : Hid (∀ w', Rowz w' (.slice A2 m2 c2) (keep.map Value.bool) → Calls Tryd.prog 25 #[.agg (crashV (.slice A2 m2 c2) torn bytes), .int .i64 100] w' fun e w'' => e = .returned (.bool (decide ((keep.length : Int) ≤ 100))) ∧ Below w'.heap.size w' w'') := fun w' h' => light_any w' _ keep torn bytes 100 h'
  clear hk hw0 ha hb hn
  unfold crashV at LC KC HW0 ⊢
  go_enter Tryd.func6, Tryd.ntmps6
  go_wp2_with fail
  rw [HW0.out]
  clear HW0
  refine (lives6_any _).mono ?_
  rintro e w1 ⟨rfl, hb1⟩
  have HN1 := Lib.hid (HN0.out.below hb1)
  clear hb1 HN0
  obtain ⟨d0, d1, d2⟩ := HN1.out.c.cells
  go_wp2_with fail
  clear d0 d1 d2
  refine (LC.out _ (HK.out.below HN1.out.bel)).mono ?_
  rintro e w2 ⟨rfl, hb2⟩
  have HN2 := Lib.hid (HN1.out.below hb2)
  clear hb2 HN1 LC
  rw [show decide ((keep.length : Int) ≤ 100) = true from decide_eq_true (by omega)]
  obtain ⟨E2, hE⟩ : ∃ E2 : Nat, 2 + (ep : Int) % 1099511627776 = (E2 : Int) := ⟨(2 + (ep : Int) % 1099511627776).toNat, by omega⟩
  obtain ⟨E1, h1⟩ : ∃ E1 : Nat, E1 + 1 = E2 := ⟨E2 - 1, by omega⟩
  obtain ⟨E3, h3⟩ : ∃ E3 : Nat, E3 = E2 + 1 := ⟨_, rfl⟩
  have V1 : Hid (2 + (ep : Int) % 1099511627776 - 1 = (E1 : Int)) := by rw [Hid]; omega
  have V2 : Hid (2 + (ep : Int) % 1099511627776 = (E2 : Int)) := hE
  have V3 : Hid (2 + (ep : Int) % 1099511627776 + 1 = (E3 : Int)) := by rw [Hid]; omega
  have L3 : Hid (E3 < 18446744073709551616) := by rw [Hid]; omega
  have H1 := Lib.hid h1
  have H3 := Lib.hid h3
  clear hE h1 h3
  go_wp2_with (first | (with_reducible (show wpList _ _ _ (⟨_, Op.store 26 (Operand.tmp 30) _, _, _, _, _⟩ :: _) _ _); rw [V1.out, V3.out, V2.out]; refine wpList_putRtE rfl rfl _ _ rfl (w.heap.size) 0 E1 (by omega) rfl rfl HN2.out.a ?_; intro u1 hu; have M1 := Lib.hid (hu ▸ HN2.out.putA 0 E1 (by omega)); clear hu) | (with_reducible (show wpList _ _ _ (⟨_, Op.store 26 (Operand.tmp 31) _, _, _, _, _⟩ :: _) _ _); refine wpList_putRtE rfl rfl _ _ rfl (w.heap.size + 1) 0 E2 (by omega) rfl rfl M1.out.b ?_; intro u2 hu; have M2 := Lib.hid (hu ▸ M1.out.putB 0 E2 (by omega)); clear hu) | (with_reducible (show wpList _ _ _ (⟨_, Op.store 26 (Operand.tmp 32) _, _, _, _, _⟩ :: _) _ _); refine wpList_putRtE rfl rfl _ _ rfl (w.heap.size + 2) 0 E3 (by omega) rfl rfl M2.out.n ?_; intro u3 hu; have M3 := Lib.hid (hu ▸ M2.out.putN 0 E3 (by omega)); clear hu) | (with_reducible (show wpList _ _ _ (⟨_, Op.store 26 (Operand.tmp 33) _, _, _, _, _⟩ :: _) _ _); refine wpList_putRtE rfl rfl _ _ rfl (w.heap.size) 1 8 (by omega) rfl rfl M3.out.a ?_; intro u4 hu; have M4 := Lib.hid (hu ▸ M3.out.putA 1 8 (by omega)); clear hu) | (with_reducible (show wpList _ _ _ (⟨_, Op.store 26 (Operand.tmp 34) _, _, _, _, _⟩ :: _) _ _); refine wpList_putRtE rfl rfl _ _ rfl (w.heap.size + 1) 1 8 (by omega) rfl rfl M4.out.b ?_; intro u5 hu; have M5 := Lib.hid (hu ▸ M4.out.putB 1 8 (by omega)); clear hu) | (with_reducible (show wpList _ _ _ (⟨_, Op.store 26 (Operand.tmp 35) _, _, _, _, _⟩ :: _) _ _); refine wpList_putRtE rfl rfl _ _ rfl (w.heap.size + 2) 1 8 (by omega) rfl rfl M5.out.n ?_; intro u6 hu; have M6 := Lib.hid (hu ▸ M5.out.putN 1 8 (by omega)); clear hu))
  clear HN2 M1 M2 M3 M4 M5
  have HA := Lib.hid (atR_wf (e := E1) WA.out (by have := H1.out; have := H3.out; have := L3.out; omega))
  have HB := Lib.hid (atR_wf (e := E2) WB.out (by have := H3.out; have := L3.out; omega))
  have HN := Lib.hid (atR_wf (e := E3) WN.out L3.out)
  have M7 : Hid (Four w u6 (atR ra E1) (atR rb E2) (atR rn E3) (.slice A2 m2 c2) torn bytes) := M6.out
  have EN : Hid ((atR rn E3).e = (atR rb E2).e + 1) := H3.out
  have PA : Hid ((atR ra E1).p = 8) := rfl
  have PB : Hid ((atR rb E2).p = 8) := rfl
  have PN : Hid ((atR rn E3).p = 8) := rfl
  clear M6 V1 V2 V3
  generalize atR ra E1 = A at *
  generalize atR rb E2 = B at *
  generalize atR rn E3 = N at *
  have C0 : Hid (∀ w, Calls Tryd.prog 11 #[.int .i64 64] w (Disked w (newS 64))) := fun w => snew_any w 64 (by omega) (by omega)
  refine (C0.out _).mono ?_
  rintro e w4 ⟨g, rfl, hd, hb⟩
  obtain ⟨S4, HD4, HS4⟩ : ∃ S4, Hid (Dsk w4 S4 g (newS 64)) ∧ Hid (∀ k, S4 k → u6.heap.size ≤ k) := ⟨_, hd, fun k hk => hk.1⟩
  have F4 : Hid (Saf w w4 u6.heap.size A B N (.slice A2 m2 c2) torn bytes S4 g (newS 64)) := ⟨M7.out.below hb, HD4.out, HS4.out, M7.out.size, hb.size⟩
  clear hd hb HD4 HS4 C0 M7
  generalize u6.heap.size = X0 at *
  go_wp2_with (with_reducible (show wpList _ _ _ (⟨_, Op.load 29 _, _, _, _, _⟩ :: _) _ _); first | (refine wpList_exec rfl _ (exec_loadRt _ rfl _ rfl (F4.out.four.a)) ?_))
  have CK := check_any w4 A
  by_cases hA : okR A
  rotate_left
  · rw [show checkN A = 2 from if_neg hA] at CK
    refine CK.mono ?_
    rintro e w5 ⟨rfl, hb⟩
    have F5 := Lib.hid (F4.out.below hb)
    clear hb CK
    go_wp2_with fail
    go_ret
    exact ⟨rfl, F5.out.bel⟩
  rw [show checkN A = 0 from if_pos hA] at CK
  refine CK.mono ?_
  rintro e w5 ⟨rfl, hb⟩
  have F5 := Lib.hid (F4.out.below hb)
  have OKA := Lib.hid hA
  clear hb CK hA F4
  go_wp2_with (with_reducible (show wpList _ _ _ (⟨_, Op.load 29 _, _, _, _, _⟩ :: _) _ _); first | (refine wpList_exec rfl _ (exec_loadRt _ rfl _ rfl (F5.out.four.b)) ?_))
  have CK := check_any w5 B
  by_cases hB : okR B
  rotate_left
  · rw [show checkN B = 2 from if_neg hB] at CK
    refine CK.mono ?_
    rintro e w6 ⟨rfl, hb⟩
    have F6 := Lib.hid (F5.out.below hb)
    clear hb CK
    go_wp2_with fail
    go_ret
    exact ⟨rfl, F6.out.bel⟩
  rw [show checkN B = 0 from if_pos hB] at CK
  refine CK.mono ?_
  rintro e w6 ⟨rfl, hb⟩
  have F6 := Lib.hid (F5.out.below hb)
  have OKB := Lib.hid hB
  clear hb CK hB F5
  go_wp2_with (with_reducible (show wpList _ _ _ (⟨_, Op.load 29 _, _, _, _, _⟩ :: _) _ _); first | (refine wpList_exec rfl _ (exec_loadRt _ rfl _ rfl (F6.out.four.n)) ?_))
  have CK := check_any w6 N
  by_cases hN : okR N
  rotate_left
  · rw [show checkN N = 2 from if_neg hN] at CK
    refine CK.mono ?_
    rintro e w7 ⟨rfl, hb⟩
    have F7 := Lib.hid (F6.out.below hb)
    clear hb CK
    go_wp2_with fail
    go_ret
    exact ⟨rfl, F7.out.bel⟩
  rw [show checkN N = 0 from if_pos hN] at CK
  refine CK.mono ?_
  rintro e w7 ⟨rfl, hb⟩
  have F7 := Lib.hid (F6.out.below hb)
  have OKN := Lib.hid hN
  clear hb CK hN F6
  obtain ⟨s1, s2, s3, s4, s5, x, e1, e2, e3, e4, e5, e6, e7, xw, xl, xx⟩ := safe_plain OKA.out OKB.out OKN.out HB.out HN.out PA.out PB.out PN.out EN.out keep torn bytes
  generalize newS 64 = s0 at *
  have W1 : Hid (∀ w S g, Dsk w S g s0 → Calls Tryd.prog 13 #[.pointer (some ⟨g, 0, none⟩), .agg (rtV A)] w (Done w S g (0, s1))) := fun w S g h => e1 ▸ rwrite_is w S g _ A h HA.out
  have W2 : Hid (∀ w S g, Dsk w S g s1 → Calls Tryd.prog 13 #[.pointer (some ⟨g, 0, none⟩), .agg (rtV B)] w (Done w S g (0, s2))) := fun w S g h => e2 ▸ rwrite_is w S g _ B h HB.out
  have W3 : Hid (∀ w S g, Dsk w S g s2 → Calls Tryd.prog 26 #[.pointer (some ⟨g, 0, none⟩)] w (Done w S g (0, s3))) := fun w S g h => e3 ▸ flush_is w S g _ h
  have W4 : Hid (∀ w S g, Dsk w S g s3 → Calls Tryd.prog 13 #[.pointer (some ⟨g, 0, none⟩), .agg (rtV N)] w (Done w S g (0, s4))) := fun w S g h => e4 ▸ rwrite_is w S g _ N h HN.out
  have D4 : Hid (∀ w S g, Dsk w S g s4 → Calls Tryd.prog 10 #[.pointer (some ⟨g, 0, none⟩)] w (FindE w S g (N, 0, s4))) := fun w S g h => e5 ▸ rootfind_is w S g s4 h
  have D5 : Hid (∀ w S g, Dsk w S g s5 → Calls Tryd.prog 10 #[.pointer (some ⟨g, 0, none⟩)] w (FindE w S g (x, 0, s5))) := fun w S g h => e7 ▸ rootfind_is w S g s5 h
  have K5 : Hid (∀ w S g v, Dsk w S g s4 → Rowz w v (keep.map Value.bool) → (∀ k, v.ownBlock = some k → ¬ S k) → Calls Tryd.prog 27 #[.pointer (some ⟨g, 0, none⟩), .agg #[v, .int .i64 torn, .int .i64 bytes]] w (Done w S g (0, s5))) := fun w S g v h hr hn => e6 ▸ crash_is w S g s4 v keep torn bytes h hr hn
  have XW := Lib.hid xw
  have XL := Lib.hid xl
  have XX := Lib.hid xx
  clear e1 e2 e3 e4 e5 e6 e7 xw xl xx OKA OKB OKN PA PB PN EN H1 H3 L3 WA WB WN HA
  go_wp2_with (with_reducible (show wpList _ _ _ (⟨_, Op.load 29 _, _, _, _, _⟩ :: _) _ _); first | (refine wpList_exec rfl _ (exec_loadRt _ rfl _ rfl (F7.out.four.a)) ?_))
  refine (W1.out _ S4 g F7.out.dsk).mono ?_
  intro e w8 hdone
  obtain ⟨rfl, hf, _⟩ := F7.out.done hdone
  obtain ⟨S8, F8⟩ : ∃ S8, Hid (Saf w w8 X0 A B N (.slice A2 m2 c2) torn bytes S8 g _) := ⟨_, hf⟩
  clear hdone hf F7
  go_wp2_with (with_reducible (show wpList _ _ _ (⟨_, Op.load 29 _, _, _, _, _⟩ :: _) _ _); first | (refine wpList_exec rfl _ (exec_loadRt _ rfl _ rfl (F8.out.four.b)) ?_))
  refine (W2.out _ S8 g F8.out.dsk).mono ?_
  intro e w9 hdone
  obtain ⟨rfl, hf, _⟩ := F8.out.done hdone
  obtain ⟨S9, F9⟩ : ∃ S9, Hid (Saf w w9 X0 A B N (.slice A2 m2 c2) torn bytes S9 g _) := ⟨_, hf⟩
  clear hdone hf F8
  go_wp2_with fail
  refine (W3.out _ S9 g F9.out.dsk).mono ?_
  intro e w10 hdone
  obtain ⟨rfl, hf, _⟩ := F9.out.done hdone
  obtain ⟨S10, F10⟩ : ∃ S10, Hid (Saf w w10 X0 A B N (.slice A2 m2 c2) torn bytes S10 g _) := ⟨_, hf⟩
  clear hdone hf F9
  go_wp2_with (with_reducible (show wpList _ _ _ (⟨_, Op.load 29 _, _, _, _, _⟩ :: _) _ _); first | (refine wpList_exec rfl _ (exec_loadRt _ rfl _ rfl (F10.out.four.n)) ?_))
  refine (W4.out _ S10 g F10.out.dsk).mono ?_
  intro e w11 hdone
  obtain ⟨rfl, hf, _⟩ := F10.out.done hdone
  obtain ⟨S11, F11⟩ : ∃ S11, Hid (Saf w w11 X0 A B N (.slice A2 m2 c2) torn bytes S11 g _) := ⟨_, hf⟩
  clear hdone hf F10
  go_wp2_with fail
  refine (D4.out _ S11 g F11.out.dsk).mono ?_
  rintro e w12 ⟨rfl, hd, ht⟩
  have HL : Hid (¬ S11 w12.heap.size) := fun h => by have := F11.out.dsk.lt _ h; have := ht.size; omega
  have F12 := Lib.hid (F11.out.trn hd ht F11.out.low)
  clear hd ht F11
  go_wp2_with (first | (with_reducible (show wpList _ _ _ (⟨_, Op.store 29 _ _, _, _, _, _⟩ :: _) _ _); refine wpList_storeNewRt zeroR N rfl _ _ rfl rfl rfl ?_; intro w13 hx13 hb13 hlt13; obtain ⟨q0, q1, q2⟩ := (F12.out.below hb13).four.c.cells) | (with_reducible (show wpList _ _ _ (⟨_, Op.load 29 _, _, _, _, _⟩ :: _) _ _); first | (refine wpList_exec rfl _ (exec_loadRt _ rfl _ rfl (hx13)) ?_) | (refine wpList_exec rfl _ (exec_loadRt _ rfl _ rfl ((F12.out.below hb13).four.n)) ?_)) | (with_reducible (show wpList _ _ _ (⟨_, Op.binOp BinOp.neq 29 _ _ _, _, _, _, _⟩ :: _) _ _); refine wpList_exec rfl (.bool false) (exec_neRt_same _ _ rfl rfl rfl HN.out) ?_))
  clear q0 q1 q2
  have F13 := Lib.hid (F12.out.below hb13)
  have X13 := Lib.hid hx13
  have HX : Hid (X0 ≤ w12.heap.size) := F12.out.hz
  have HXL : Hid (w12.heap.size < w13.heap.size) := hlt13
  clear hx13 hb13 hlt13 F12
  generalize w12.heap.size = X at *
  refine (KC.out _ (HK.out.below F13.out.bel)).mono ?_
  rintro e w14 ⟨v14, rfl, hr14, ho14, hb14⟩
  have F14 := Lib.hid (F13.out.below hb14)
  have X14 := Lib.hid (X13.out.below hb14)
  have HR := Lib.hid hr14
  have HO : Hid (∀ k, v14.ownBlock = some k → ¬ S11 k) := fun k hk hs => by have := ho14 k hk; have := F13.out.dsk.lt k hs; omega
  have HXL' : Hid (X < w14.heap.size) := X14.out.lt
  obtain ⟨A14, n14, c14, rfl, N14, hnc14, hcm14⟩ := hr14.form
  clear hr14 ho14 hb14 F13 X13 HXL KC
  unfold crashV
  go_wp2_with fail
  refine (K5.out _ S11 g _ F14.out.dsk HR.out HO.out).mono ?_
  intro e w15 hdone
  obtain ⟨rfl, hf, ht⟩ := F14.out.done hdone
  have X15 := Lib.hid (X14.out.trn ht HL.out)
  have HL15 : Hid (¬ more S11 w14 w15 X) := fun h => h.elim HL.out (fun q => by have := HXL'.out; omega)
  have F15 := Lib.hid hf
  clear hdone hf ht F14 X14 HL HXL' HR HO
  generalize more S11 w14 w15 = S15 at *
  go_wp2_with fail
  refine (D5.out _ S15 g F15.out.dsk).mono ?_
  rintro e w16 ⟨rfl, hd, ht⟩
  have F16 := Lib.hid (F15.out.trn hd ht F15.out.low)
  have X16 := Lib.hid (X15.out.trn ht HL15.out)
  clear hd ht F15 X15
  by_cases hxb : x = B
  · subst hxb
    go_wp2_with (first | (with_reducible (show wpList _ _ _ (⟨_, Op.store 29 _ _, _, _, _, _⟩ :: _) _ _); refine wpList_storeRt rfl _ _ rfl _ rfl x rfl _ (X16.out) ?_; intro w17 hq17 hb17 ht17 hs17; have F17 := Lib.hid (F16.out.put ht17 HX.out HL15.out); have X17 := Lib.hid hq17; clear hq17 hb17 ht17 hs17) | (with_reducible (show wpList _ _ _ (⟨_, Op.load 29 _, _, _, _, _⟩ :: _) _ _); first | (refine wpList_exec rfl _ (exec_loadRt _ rfl _ rfl (X17.out)) ?_) | (refine wpList_exec rfl _ (exec_loadRt _ rfl _ rfl (F17.out.four.b)) ?_)) | (with_reducible (show wpList _ _ _ (⟨_, Op.binOp BinOp.eql 29 _ _ _, _, _, _, _⟩ :: _) _ _); refine wpList_exec rfl (.bool true) (exec_eqRt_same _ _ rfl rfl rfl HB.out) ?_))
    go_ret
    exact ⟨rfl, F17.out.bel⟩
  · have XR : Hid (readRt ((s5.B.drop (4096 * (N.e % 2))).take 4096) = some x) := XX.out.resolve_left hxb
    have DB : Hid (decide (x = B) = false) := decide_eq_false hxb
    clear XX hxb
    by_cases hxn : x = N
    · subst hxn
      go_wp2_with (first | (with_reducible (show wpList _ _ _ (⟨_, Op.store 29 _ _, _, _, _, _⟩ :: _) _ _); refine wpList_storeRt rfl _ _ rfl _ rfl x rfl _ (X16.out) ?_; intro w17 hq17 hb17 ht17 hs17; have F17 := Lib.hid (F16.out.put ht17 HX.out HL15.out); have X17 := Lib.hid hq17; clear hq17 hb17 ht17 hs17) | (with_reducible (show wpList _ _ _ (⟨_, Op.load 29 _, _, _, _, _⟩ :: _) _ _); first | (refine wpList_exec rfl _ (exec_loadRt _ rfl _ rfl (X17.out)) ?_) | (refine wpList_exec rfl _ (exec_loadRt _ rfl _ rfl (F17.out.four.b)) ?_) | (refine wpList_exec rfl _ (exec_loadRt _ rfl _ rfl (F17.out.four.n)) ?_)) | (with_reducible (show wpList _ _ _ (⟨_, Op.binOp BinOp.eql 29 _ _ _, _, _, _, _⟩ :: _) _ _); refine wpList_exec rfl (.bool false) (DB.out ▸ exec_eqRt _ _ rfl rfl rfl HN.out HB.out) ?_) | (with_reducible (show wpList _ _ _ (⟨_, Op.binOp BinOp.eql 29 _ _ _, _, _, _, _⟩ :: _) _ _); refine wpList_exec rfl (.bool true) (exec_eqRt_same _ _ rfl rfl rfl HN.out) ?_))
      go_ret
      exact ⟨rfl, F17.out.bel⟩
    · have DN : Hid (decide (x = N) = false) := decide_eq_false hxn
      clear hxn
      go_wp2_with (first | (with_reducible (show wpList _ _ _ (⟨_, Op.store 29 _ _, _, _, _, _⟩ :: _) _ _); refine wpList_storeRt rfl _ _ rfl _ rfl x rfl _ (X16.out) ?_; intro w17 hq17 hb17 ht17 hs17; have F17 := Lib.hid (F16.out.put ht17 HX.out HL15.out); have X17 := Lib.hid hq17; clear hq17 hb17 ht17 hs17) | (with_reducible (show wpList _ _ _ (⟨_, Op.load 29 _, _, _, _, _⟩ :: _) _ _); first | (refine wpList_exec rfl _ (exec_loadRt _ rfl _ rfl (X17.out)) ?_) | (refine wpList_exec rfl _ (exec_loadRt _ rfl _ rfl (F17.out.four.b)) ?_) | (refine wpList_exec rfl _ (exec_loadRt _ rfl _ rfl (F17.out.four.n)) ?_)) | (with_reducible (show wpList _ _ _ (⟨_, Op.binOp BinOp.eql 29 _ _ _, _, _, _, _⟩ :: _) _ _); refine wpList_exec rfl (.bool false) (DB.out ▸ exec_eqRt _ _ rfl rfl rfl XW.out HB.out) ?_) | (with_reducible (show wpList _ _ _ (⟨_, Op.binOp BinOp.eql 29 _ _ _, _, _, _, _⟩ :: _) _ _); refine wpList_exec rfl (.bool false) (DN.out ▸ exec_eqRt _ _ rfl rfl rfl XW.out HN.out) ?_))
      have KL : Hid (N.e % 2 < 2) := Nat.mod_lt _ (by decide)
      obtain ⟨kk, hkk⟩ : ∃ kk, N.e % 2 = kk := ⟨_, rfl⟩
      have KK := Lib.hid hkk
      rw [hkk] at KL XR
      clear hkk
      have RD : Hid (∀ w v, Byt w v ((s5.B.drop (4096 * kk)).take 4096) → Calls Tryd.prog 24 #[v] w (RtN w x 0)) := fun w v h => by
        have hr := r6read_any w v _ h
        rw [readQ_some XR.out] at hr
        exact hr
      have FD : Hid (Saf w w17.drew X0 A B N (.slice A2 m2 c2) torn bytes S15 g s5) := F17.out.below (Below.refl _ _).drew
      have XD : Hid (RBox w17.drew X x) := X17.out
      clear F17 X17 F16 X16
      refine wp_region_L (R := fun x y => Below w17.drew.heap.size x y) (by kernel_rfl) (fun _ => Below.refl _ _) (fun h k => h.trans k) (by kernel_rfl) (fun d v c a w h => by cases d <;> exact h)
        [(0, false), (2, false), (5, false)] 14 rfl (by kernel_rfl) (by kernel_rfl) (fun _ _ h => h) ?_
      simp only [sel, List.getElem?_toArray, List.getElem?_cons_succ, List.getElem?_cons_zero]
      generalize w17.drew = wd at *
      have Gd : Hid (Below wd.heap.size wd wd) := Below.refl _ _
      (refine schL_take ?_ rfl ?_ ?_; rotate_left; (focus (intro u hu; go_simp <;> rfl)); simp only [Act.put, List.setIfInBounds_toArray, List.set_cons_zero, List.set_cons_succ])
      refine schL_take (.agg (rtV N)) rfl (fun u hu => exec_loadRt _ rfl _ rfl (FD.out.four.n.below hu)) ?_
      simp only [Act.put, List.setIfInBounds_toArray, List.set_cons_zero, List.set_cons_succ]
      refine schL_take (.agg (rtV N)) rfl (fun u hu => exec_loadRt _ rfl _ rfl (FD.out.four.n.below hu)) ?_
      simp only [Act.put, List.setIfInBounds_toArray, List.set_cons_zero, List.set_cons_succ]
      refine schL_nil ?_
      refine held_fork (R := fun x y => Below wd.heap.size x y) (fun h k => h.trans k) (i := 1) (j := 14) (by kernel_rfl) rfl rfl rfl rfl ?_ ?_
      · intro K hK
        go_simp
        refine (image_is _ S15 g s5 (FD.out.dsk.same Gd.out.size (fun k hk => Gd.out.block k (FD.out.dsk.lt k hk)))).mono ?_
        rintro e wp1 ⟨v1, rfl, hown1, hb⟩
        have Gp1 := Lib.hid (Gd.out.trans (hb.mono Gd.out.size))
        have Ip1 := Lib.hid hown1.byt
        obtain ⟨A1, n1, c1, rfl, N1, hnc1, hcm1⟩ := hown1.byt.form
        obtain rfl : n1 = 32768 := N1.out.trans XL.out
        clear hown1 N1
        go_wp2_with fail
        refine hK _ _ (hb.mono Gd.out.size) ?_
        clear hK K
        clear hb
        obtain ⟨A5, n5, c5, r5, b5, N5, hnc5, hcm5⟩ := (Ip1.out).midrun (4096 * kk) (4096 * kk + 4096) (by omega) (by have := KL.out; omega)
        have MR := Lib.hid r5
        have MB : Hid (∀ u, Byt u (.slice A1 32768 c1) s5.B → Byt u (.slice A5 n5 c5) ((s5.B.drop (4096 * kk)).take 4096)) := fun u h => by
          have h9 := cut_any MR.out (by omega) (by have := KL.out; omega) u h
          rwa [show 4096 * kk + 4096 - 4096 * kk = 4096 by omega] at h9
        clear r5 b5 N5
        refine held_fork (R := fun x y => Below wd.heap.size x y) (fun h k => h.trans k) (i := 3) (j := 14) (by kernel_rfl) rfl rfl rfl rfl ?_ ?_
        · intro K hK
          go_simp
          refine (rslot_any _ N).mono ?_
          rintro e wp2 ⟨rfl, hb⟩
          rw [KK.out]
          go_wp2_with fail
          refine hK _ _ (hb.mono Gp1.out.size) ?_
          clear hK K
          have Gp2 := Lib.hid (Gp1.out.trans (hb.mono Gp1.out.size))
          have Ip2 := Lib.hid (Ip1.out.below hb)
          clear hb
          refine held_of_schL (R := fun x y => Below wd.heap.size x y) (fun _ => Below.refl _ _) (fun h k => h.trans k) (by kernel_rfl) (fun d v c a w h => by cases d <;> exact h) 11 [(4, false)] _ _ _ (by kernel_rfl) (by kernel_rfl) (fun _ _ h => h) ?_
          simp only [sel, List.getElem?_toArray, List.getElem?_cons_succ, List.getElem?_cons_zero]
          refine schL_take (.int .i64 ((4096 * kk : Nat) : Int)) rfl (fun u hu => exec_page _ _ rfl kk KL.out rfl rfl) ?_
          simp only [Act.put, List.setIfInBounds_toArray, List.set_cons_zero, List.set_cons_succ]
          refine schL_nil ?_
          refine held_fork (R := fun x y => Below wd.heap.size x y) (fun h k => h.trans k) (i := 6) (j := 14) (by kernel_rfl) rfl rfl rfl rfl ?_ ?_
          · intro K hK
            go_simp
            refine (rslot_any _ N).mono ?_
            rintro e wp3 ⟨rfl, hb⟩
            rw [KK.out]
            go_wp2_with fail
            refine hK _ _ (hb.mono Gp2.out.size) ?_
            clear hK K
            have Gp3 := Lib.hid (Gp2.out.trans (hb.mono Gp2.out.size))
            have Ip3 := Lib.hid (Ip2.out.below hb)
            clear hb
            refine held_of_schL (R := fun x y => Below wd.heap.size x y) (fun _ => Below.refl _ _) (fun h k => h.trans k) (by kernel_rfl) (fun d v c a w h => by cases d <;> exact h) 7 [(7, false), (8, false), (9, false)] _ _ _ (by kernel_rfl) (by kernel_rfl) (fun _ _ h => h) ?_
            simp only [sel, List.getElem?_toArray, List.getElem?_cons_succ, List.getElem?_cons_zero]
            refine schL_take (.int .i64 ((4096 * kk : Nat) : Int)) rfl (fun u hu => exec_page _ _ rfl kk KL.out rfl rfl) ?_
            simp only [Act.put, List.setIfInBounds_toArray, List.set_cons_zero, List.set_cons_succ]
            refine schL_take (.int .i64 ((4096 * kk + 4096 : Nat) : Int)) rfl (fun u hu => exec_page2 _ _ rfl kk KL.out rfl rfl) ?_
            simp only [Act.put, List.setIfInBounds_toArray, List.set_cons_zero, List.set_cons_succ]
            refine schL_take (.slice A5 n5 c5) rfl (fun u hu => exec_cut MR.out _ _ _ rfl rfl rfl rfl u) ?_
            simp only [Act.put, List.setIfInBounds_toArray, List.set_cons_zero, List.set_cons_succ]
            refine schL_nil ?_
            refine held_fork (R := fun x y => Below wd.heap.size x y) (fun h k => h.trans k) (i := 10) (j := 14) (by kernel_rfl) rfl rfl rfl rfl ?_ ?_
            · intro K hK
              have J := Lib.hid (MB.out _ Ip3.out)
              go_simp
              refine (RD.out _ _ J.out).mono ?_
              rintro e wp4 ⟨rfl, hb⟩
              go_wp2_with fail
              refine hK _ _ (hb.mono Gp3.out.size) ?_
              clear hK K
              have Gp4 := Lib.hid (Gp3.out.trans (hb.mono Gp3.out.size))
              clear hb
              refine held_of_sch (R := fun x y => Below wd.heap.size x y) (fun _ => Below.refl _ _) (fun h k => h.trans k) (by kernel_rfl) (fun d v c a w h => by cases d <;> exact h) [(11, false), (12, false), (13, false), (14, true), (15, true), (16, false)] _ _ _ (by kernel_rfl) (by kernel_rfl) ?_
              simp only [sel, List.getElem?_toArray, List.getElem?_cons_succ, List.getElem?_cons_zero]
              (refine sch_take ?_ rfl ?_ ?_; rotate_left; (focus (intro u hu; go_simp <;> rfl)); simp only [Act.put, List.setIfInBounds_toArray, List.set_cons_zero, List.set_cons_succ])
              (refine sch_take ?_ rfl ?_ ?_; rotate_left; (focus (intro u hu; go_simp <;> rfl)); simp only [Act.put, List.setIfInBounds_toArray, List.set_cons_zero, List.set_cons_succ])
              (refine sch_take ?_ rfl ?_ ?_; rotate_left; (focus (intro u hu; go_simp <;> rfl)); simp only [Act.put, List.setIfInBounds_toArray, List.set_cons_zero, List.set_cons_succ])
              refine sch_call rfl ?_
              intro K hK
              refine wp_allocRt rfl _ rfl (hK _ _ ((below_new _ _).mono Gp4.out.size) ?_)
              clear hK K
              simp only [Act.put, List.setIfInBounds_toArray, List.set_cons_zero, List.set_cons_succ]
              obtain ⟨wy, hwy⟩ : ∃ wy, wp4.alloc (.cells (rtV zeroR) 29) = wy := ⟨_, rfl⟩
              have hby : Below wp4.heap.size wp4 wy := hwy ▸ below_new wp4 _
              have Yy : Hid (RBox wy wp4.heap.size zeroR) := hwy ▸ RBox.new wp4 zeroR
              have HYW : Hid (wd.heap.size ≤ wp4.heap.size) := Gp4.out.size
              have Gy := Lib.hid (Gp4.out.trans (hby.mono Gp4.out.size))
              rw [hwy]
              clear hwy hby
              generalize wp4.heap.size = Y at *
              refine sch_call rfl ?_
              intro K hK
              refine wp_storeRt _ _ rfl rfl _ rfl x rfl zeroR Yy.out ?_
              intro wz h71 h72 h73
              refine hK _ _ (below_of_trn h72 HYW.out Gy.out.size) ?_
              clear hK K
              (refine sch_take ?_ rfl ?_ ?_; rotate_left; (focus (intro u hu; go_simp <;> rfl)); simp only [Act.put, List.setIfInBounds_toArray, List.set_cons_zero, List.set_cons_succ])
              refine sch_nil ?_
              have XZ : Hid (RBox wz X x) := (XD.out.belowB Gy.out XD.out.lt).trn h72 (by have := XD.out.lt; have := HYW.out; omega)
              have YZ := Lib.hid h71
              have BZ := Lib.hid (FD.out.bel.trans ((Gy.out.trans (below_of_trn h72 HYW.out Gy.out.size)).mono FD.out.bel.size))
              clear h71 h72 h73
              go_wp2_with (first | (with_reducible (show wpList _ _ _ (⟨_, Op.load 29 _, _, _, _, _⟩ :: _) _ _); first | (refine wpList_exec rfl _ (exec_loadRt _ rfl _ rfl (XZ.out)) ?_) | (refine wpList_exec rfl _ (exec_loadRt _ rfl _ rfl (YZ.out)) ?_)) | (with_reducible (show wpList _ _ _ (⟨_, Op.binOp BinOp.eql 29 _ _ _, _, _, _, _⟩ :: _) _ _); refine wpList_exec rfl (.bool true) (exec_eqRt_same _ _ rfl rfl rfl XW.out) ?_))
              go_ret
              exact ⟨rfl, BZ.out⟩
            · intro K hK
              refine wp_allocRt rfl _ rfl (hK _ _ ((below_new _ _).mono Gp3.out.size) ?_)
              clear hK K
              simp only [Act.put, List.setIfInBounds_toArray]
              obtain ⟨wy, hwy⟩ : ∃ wy, wp3.alloc (.cells (rtV zeroR) 29) = wy := ⟨_, rfl⟩
              have hby : Below wp3.heap.size wp3 wy := hwy ▸ below_new wp3 _
              have Yy : Hid (RBox wy wp3.heap.size zeroR) := hwy ▸ RBox.new wp3 zeroR
              have HYW : Hid (wd.heap.size ≤ wp3.heap.size) := Gp3.out.size
              have Gy := Lib.hid (Gp3.out.trans (hby.mono Gp3.out.size))
              have Iy := Lib.hid (Ip3.out.below hby)
              rw [hwy]
              clear hwy hby
              generalize wp3.heap.size = Y at *
              refine held_of_sch (R := fun x y => Below wd.heap.size x y) (fun _ => Below.refl _ _) (fun h k => h.trans k) (by kernel_rfl) (fun d v c a w h => by cases d <;> exact h) [(10, true), (11, false), (12, false), (13, false), (15, true), (16, false)] _ _ _ (by kernel_rfl) (by kernel_rfl) ?_
              simp only [sel, List.getElem?_toArray, List.getElem?_cons_succ, List.getElem?_cons_zero]
              refine sch_call rfl ?_
              intro K hK
              have J := Lib.hid (MB.out _ Iy.out)
              go_simp
              refine (RD.out _ _ J.out).mono ?_
              rintro e wq4 ⟨rfl, hb⟩
              go_wp2_with fail
              refine hK _ _ (hb.mono Gy.out.size) ?_
              clear hK K
              have Gq4 := Lib.hid (Gy.out.trans (hb.mono Gy.out.size))
              have Yq4 := Lib.hid (Yy.out.below hb)
              clear hb
              (refine sch_take ?_ rfl ?_ ?_; rotate_left; (focus (intro u hu; go_simp <;> rfl)); simp only [Act.put, List.setIfInBounds_toArray, List.set_cons_zero, List.set_cons_succ])
              (refine sch_take ?_ rfl ?_ ?_; rotate_left; (focus (intro u hu; go_simp <;> rfl)); simp only [Act.put, List.setIfInBounds_toArray, List.set_cons_zero, List.set_cons_succ])
              (refine sch_take ?_ rfl ?_ ?_; rotate_left; (focus (intro u hu; go_simp <;> rfl)); simp only [Act.put, List.setIfInBounds_toArray, List.set_cons_zero, List.set_cons_succ])
              refine sch_call rfl ?_
              intro K hK
              refine wp_storeRt _ _ rfl rfl _ rfl x rfl zeroR Yq4.out ?_
              intro wz h71 h72 h73
              refine hK _ _ (below_of_trn h72 HYW.out Gq4.out.size) ?_
              clear hK K
              (refine sch_take ?_ rfl ?_ ?_; rotate_left; (focus (intro u hu; go_simp <;> rfl)); simp only [Act.put, List.setIfInBounds_toArray, List.set_cons_zero, List.set_cons_succ])
              refine sch_nil ?_
              have XZ : Hid (RBox wz X x) := (XD.out.belowB Gq4.out XD.out.lt).trn h72 (by have := XD.out.lt; have := HYW.out; omega)
              have YZ := Lib.hid h71
              have BZ := Lib.hid (FD.out.bel.trans ((Gq4.out.trans (below_of_trn h72 HYW.out Gq4.out.size)).mono FD.out.bel.size))
              clear h71 h72 h73
              go_wp2_with (first | (with_reducible (show wpList _ _ _ (⟨_, Op.load 29 _, _, _, _, _⟩ :: _) _ _); first | (refine wpList_exec rfl _ (exec_loadRt _ rfl _ rfl (XZ.out)) ?_) | (refine wpList_exec rfl _ (exec_loadRt _ rfl _ rfl (YZ.out)) ?_)) | (with_reducible (show wpList _ _ _ (⟨_, Op.binOp BinOp.eql 29 _ _ _, _, _, _, _⟩ :: _) _ _); refine wpList_exec rfl (.bool true) (exec_eqRt_same _ _ rfl rfl rfl XW.out) ?_))
              go_ret
              exact ⟨rfl, BZ.out⟩
          · intro K hK
            refine wp_allocRt rfl _ rfl (hK _ _ ((below_new _ _).mono Gp2.out.size) ?_)
            clear hK K
            simp only [Act.put, List.setIfInBounds_toArray]
            obtain ⟨wy, hwy⟩ : ∃ wy, wp2.alloc (.cells (rtV zeroR) 29) = wy := ⟨_, rfl⟩
            have hby : Below wp2.heap.size wp2 wy := hwy ▸ below_new wp2 _
            have Yy : Hid (RBox wy wp2.heap.size zeroR) := hwy ▸ RBox.new wp2 zeroR
            have HYW : Hid (wd.heap.size ≤ wp2.heap.size) := Gp2.out.size
            have Gy := Lib.hid (Gp2.out.trans (hby.mono Gp2.out.size))
            have Iy := Lib.hid (Ip2.out.below hby)
            rw [hwy]
            clear hwy hby
            generalize wp2.heap.size = Y at *
            refine held_of_sch (R := fun x y => Below wd.heap.size x y) (fun _ => Below.refl _ _) (fun h k => h.trans k) (by kernel_rfl) (fun d v c a w h => by cases d <;> exact h) [(6, true), (7, false), (8, false), (9, false), (10, true), (11, false), (12, false), (13, false), (15, true), (16, false)] _ _ _ (by kernel_rfl) (by kernel_rfl) ?_
            simp only [sel, List.getElem?_toArray, List.getElem?_cons_succ, List.getElem?_cons_zero]
            refine sch_call rfl ?_
            intro K hK
            go_simp
            refine (rslot_any _ N).mono ?_
            rintro e wq3 ⟨rfl, hb⟩
            rw [KK.out]
            go_wp2_with fail
            refine hK _ _ (hb.mono Gy.out.size) ?_
            clear hK K
            have Gq3 := Lib.hid (Gy.out.trans (hb.mono Gy.out.size))
            have Yq3 := Lib.hid (Yy.out.below hb)
            have Iq3 := Lib.hid (Iy.out.below hb)
            clear hb
            refine sch_take (.int .i64 ((4096 * kk : Nat) : Int)) rfl (fun u hu => exec_page _ _ rfl kk KL.out rfl rfl) ?_
            simp only [Act.put, List.setIfInBounds_toArray, List.set_cons_zero, List.set_cons_succ]
            refine sch_take (.int .i64 ((4096 * kk + 4096 : Nat) : Int)) rfl (fun u hu => exec_page2 _ _ rfl kk KL.out rfl rfl) ?_
            simp only [Act.put, List.setIfInBounds_toArray, List.set_cons_zero, List.set_cons_succ]
            refine sch_take (.slice A5 n5 c5) rfl (fun u hu => exec_cut MR.out _ _ _ rfl rfl rfl rfl u) ?_
            simp only [Act.put, List.setIfInBounds_toArray, List.set_cons_zero, List.set_cons_succ]
            refine sch_call rfl ?_
            intro K hK
            have J := Lib.hid (MB.out _ Iq3.out)
            go_simp
            refine (RD.out _ _ J.out).mono ?_
            rintro e wq4 ⟨rfl, hb⟩
            go_wp2_with fail
            refine hK _ _ (hb.mono Gq3.out.size) ?_
            clear hK K
            have Gq4 := Lib.hid (Gq3.out.trans (hb.mono Gq3.out.size))
            have Yq4 := Lib.hid (Yq3.out.below hb)
            clear hb
            (refine sch_take ?_ rfl ?_ ?_; rotate_left; (focus (intro u hu; go_simp <;> rfl)); simp only [Act.put, List.setIfInBounds_toArray, List.set_cons_zero, List.set_cons_succ])
            (refine sch_take ?_ rfl ?_ ?_; rotate_left; (focus (intro u hu; go_simp <;> rfl)); simp only [Act.put, List.setIfInBounds_toArray, List.set_cons_zero, List.set_cons_succ])
            (refine sch_take ?_ rfl ?_ ?_; rotate_left; (focus (intro u hu; go_simp <;> rfl)); simp only [Act.put, List.setIfInBounds_toArray, List.set_cons_zero, List.set_cons_succ])
            refine sch_call rfl ?_
            intro K hK
            refine wp_storeRt _ _ rfl rfl _ rfl x rfl zeroR Yq4.out ?_
            intro wz h71 h72 h73
            refine hK _ _ (below_of_trn h72 HYW.out Gq4.out.size) ?_
            clear hK K
            (refine sch_take ?_ rfl ?_ ?_; rotate_left; (focus (intro u hu; go_simp <;> rfl)); simp only [Act.put, List.setIfInBounds_toArray, List.set_cons_zero, List.set_cons_succ])
            refine sch_nil ?_
            have XZ : Hid (RBox wz X x) := (XD.out.belowB Gq4.out XD.out.lt).trn h72 (by have := XD.out.lt; have := HYW.out; omega)
            have YZ := Lib.hid h71
            have BZ := Lib.hid (FD.out.bel.trans ((Gq4.out.trans (below_of_trn h72 HYW.out Gq4.out.size)).mono FD.out.bel.size))
            clear h71 h72 h73
            go_wp2_with (first | (with_reducible (show wpList _ _ _ (⟨_, Op.load 29 _, _, _, _, _⟩ :: _) _ _); first | (refine wpList_exec rfl _ (exec_loadRt _ rfl _ rfl (XZ.out)) ?_) | (refine wpList_exec rfl _ (exec_loadRt _ rfl _ rfl (YZ.out)) ?_)) | (with_reducible (show wpList _ _ _ (⟨_, Op.binOp BinOp.eql 29 _ _ _, _, _, _, _⟩ :: _) _ _); refine wpList_exec rfl (.bool true) (exec_eqRt_same _ _ rfl rfl rfl XW.out) ?_))
            go_ret
            exact ⟨rfl, BZ.out⟩
        · intro K hK
          refine wp_allocRt rfl _ rfl (hK _ _ ((below_new _ _).mono Gp1.out.size) ?_)
          clear hK K
          simp only [Act.put, List.setIfInBounds_toArray]
          obtain ⟨wy, hwy⟩ : ∃ wy, wp1.alloc (.cells (rtV zeroR) 29) = wy := ⟨_, rfl⟩
          have hby : Below wp1.heap.size wp1 wy := hwy ▸ below_new wp1 _
          have Yy : Hid (RBox wy wp1.heap.size zeroR) := hwy ▸ RBox.new wp1 zeroR
          have HYW : Hid (wd.heap.size ≤ wp1.heap.size) := Gp1.out.size
          have Gy := Lib.hid (Gp1.out.trans (hby.mono Gp1.out.size))
          have Iy := Lib.hid (Ip1.out.below hby)
          rw [hwy]
          clear hwy hby
          generalize wp1.heap.size = Y at *
          refine held_of_sch (R := fun x y => Below wd.heap.size x y) (fun _ => Below.refl _ _) (fun h k => h.trans k) (by kernel_rfl) (fun d v c a w h => by cases d <;> exact h) [(3, true), (4, false), (6, true), (7, false), (8, false), (9, false), (10, true), (11, false), (12, false), (13, false), (15, true), (16, false)] _ _ _ (by kernel_rfl) (by kernel_rfl) ?_
          simp only [sel, List.getElem?_toArray, List.getElem?_cons_succ, List.getElem?_cons_zero]
          refine sch_call rfl ?_
          intro K hK
          go_simp
          refine (rslot_any _ N).mono ?_
          rintro e wq2 ⟨rfl, hb⟩
          rw [KK.out]
          go_wp2_with fail
          refine hK _ _ (hb.mono Gy.out.size) ?_
          clear hK K
          have Gq2 := Lib.hid (Gy.out.trans (hb.mono Gy.out.size))
          have Yq2 := Lib.hid (Yy.out.below hb)
          have Iq2 := Lib.hid (Iy.out.below hb)
          clear hb
          refine sch_take (.int .i64 ((4096 * kk : Nat) : Int)) rfl (fun u hu => exec_page _ _ rfl kk KL.out rfl rfl) ?_
          simp only [Act.put, List.setIfInBounds_toArray, List.set_cons_zero, List.set_cons_succ]
          refine sch_call rfl ?_
          intro K hK
          go_simp
          refine (rslot_any _ N).mono ?_
          rintro e wq3 ⟨rfl, hb⟩
          rw [KK.out]
          go_wp2_with fail
          refine hK _ _ (hb.mono Gq2.out.size) ?_
          clear hK K
          have Gq3 := Lib.hid (Gq2.out.trans (hb.mono Gq2.out.size))
          have Yq3 := Lib.hid (Yq2.out.below hb)
          have Iq3 := Lib.hid (Iq2.out.below hb)
          clear hb
          refine sch_take (.int .i64 ((4096 * kk : Nat) : Int)) rfl (fun u hu => exec_page _ _ rfl kk KL.out rfl rfl) ?_
          simp only [Act.put, List.setIfInBounds_toArray, List.set_cons_zero, List.set_cons_succ]
          refine sch_take (.int .i64 ((4096 * kk + 4096 : Nat) : Int)) rfl (fun u hu => exec_page2 _ _ rfl kk KL.out rfl rfl) ?_
          simp only [Act.put, List.setIfInBounds_toArray, List.set_cons_zero, List.set_cons_succ]
          refine sch_take (.slice A5 n5 c5) rfl (fun u hu => exec_cut MR.out _ _ _ rfl rfl rfl rfl u) ?_
          simp only [Act.put, List.setIfInBounds_toArray, List.set_cons_zero, List.set_cons_succ]
          refine sch_call rfl ?_
          intro K hK
          have J := Lib.hid (MB.out _ Iq3.out)
          go_simp
          refine (RD.out _ _ J.out).mono ?_
          rintro e wq4 ⟨rfl, hb⟩
          go_wp2_with fail
          refine hK _ _ (hb.mono Gq3.out.size) ?_
          clear hK K
          have Gq4 := Lib.hid (Gq3.out.trans (hb.mono Gq3.out.size))
          have Yq4 := Lib.hid (Yq3.out.below hb)
          clear hb
          (refine sch_take ?_ rfl ?_ ?_; rotate_left; (focus (intro u hu; go_simp <;> rfl)); simp only [Act.put, List.setIfInBounds_toArray, List.set_cons_zero, List.set_cons_succ])
          (refine sch_take ?_ rfl ?_ ?_; rotate_left; (focus (intro u hu; go_simp <;> rfl)); simp only [Act.put, List.setIfInBounds_toArray, List.set_cons_zero, List.set_cons_succ])
          (refine sch_take ?_ rfl ?_ ?_; rotate_left; (focus (intro u hu; go_simp <;> rfl)); simp only [Act.put, List.setIfInBounds_toArray, List.set_cons_zero, List.set_cons_succ])
          refine sch_call rfl ?_
          intro K hK
          refine wp_storeRt _ _ rfl rfl _ rfl x rfl zeroR Yq4.out ?_
          intro wz h71 h72 h73
          refine hK _ _ (below_of_trn h72 HYW.out Gq4.out.size) ?_
          clear hK K
          (refine sch_take ?_ rfl ?_ ?_; rotate_left; (focus (intro u hu; go_simp <;> rfl)); simp only [Act.put, List.setIfInBounds_toArray, List.set_cons_zero, List.set_cons_succ])
          refine sch_nil ?_
          have XZ : Hid (RBox wz X x) := (XD.out.belowB Gq4.out XD.out.lt).trn h72 (by have := XD.out.lt; have := HYW.out; omega)
          have YZ := Lib.hid h71
          have BZ := Lib.hid (FD.out.bel.trans ((Gq4.out.trans (below_of_trn h72 HYW.out Gq4.out.size)).mono FD.out.bel.size))
          clear h71 h72 h73
          go_wp2_with (first | (with_reducible (show wpList _ _ _ (⟨_, Op.load 29 _, _, _, _, _⟩ :: _) _ _); first | (refine wpList_exec rfl _ (exec_loadRt _ rfl _ rfl (XZ.out)) ?_) | (refine wpList_exec rfl _ (exec_loadRt _ rfl _ rfl (YZ.out)) ?_)) | (with_reducible (show wpList _ _ _ (⟨_, Op.binOp BinOp.eql 29 _ _ _, _, _, _, _⟩ :: _) _ _); refine wpList_exec rfl (.bool true) (exec_eqRt_same _ _ rfl rfl rfl XW.out) ?_))
          go_ret
          exact ⟨rfl, BZ.out⟩
      · intro K hK
        refine wp_allocRt rfl _ rfl (hK _ _ ((below_new _ _).mono Gd.out.size) ?_)
        clear hK K
        simp only [Act.put, List.setIfInBounds_toArray]
        obtain ⟨wy, hwy⟩ : ∃ wy, wd.alloc (.cells (rtV zeroR) 29) = wy := ⟨_, rfl⟩
        have hby : Below wd.heap.size wd wy := hwy ▸ below_new wd _
        have Yy : Hid (RBox wy wd.heap.size zeroR) := hwy ▸ RBox.new wd zeroR
        have HYW : Hid (wd.heap.size ≤ wd.heap.size) := Gd.out.size
        have Gy := Lib.hid (Gd.out.trans (hby.mono Gd.out.size))
        rw [hwy]
        clear hwy hby
        refine held_of_sch (R := fun x y => Below wd.heap.size x y) (fun _ => Below.refl _ _) (fun h k => h.trans k) (by kernel_rfl) (fun d v c a w h => by cases d <;> exact h) [(1, true), (3, true), (4, false), (6, true), (7, false), (8, false), (9, false), (10, true), (11, false), (12, false), (13, false), (15, true), (16, false)] _ _ _ (by kernel_rfl) (by kernel_rfl) ?_
        simp only [sel, List.getElem?_toArray, List.getElem?_cons_succ, List.getElem?_cons_zero]
        refine sch_call rfl ?_
        intro K hK
        go_simp
        refine (image_is _ S15 g s5 (FD.out.dsk.same Gy.out.size (fun k hk => Gy.out.block k (FD.out.dsk.lt k hk)))).mono ?_
        rintro e wq1 ⟨v1, rfl, hown1, hb⟩
        have Gq1 := Lib.hid (Gy.out.trans (hb.mono Gy.out.size))
        have Yq1 := Lib.hid (Yy.out.below hb)
        have Iq1 := Lib.hid hown1.byt
        obtain ⟨A1, n1, c1, rfl, N1, hnc1, hcm1⟩ := hown1.byt.form
        obtain rfl : n1 = 32768 := N1.out.trans XL.out
        clear hown1 N1
        go_wp2_with fail
        refine hK _ _ (hb.mono Gy.out.size) ?_
        clear hK K
        clear hb
        obtain ⟨A5, n5, c5, r5, b5, N5, hnc5, hcm5⟩ := (Iq1.out).midrun (4096 * kk) (4096 * kk + 4096) (by omega) (by have := KL.out; omega)
        have MR := Lib.hid r5
        have MB : Hid (∀ u, Byt u (.slice A1 32768 c1) s5.B → Byt u (.slice A5 n5 c5) ((s5.B.drop (4096 * kk)).take 4096)) := fun u h => by
          have h9 := cut_any MR.out (by omega) (by have := KL.out; omega) u h
          rwa [show 4096 * kk + 4096 - 4096 * kk = 4096 by omega] at h9
        clear r5 b5 N5
        refine sch_call rfl ?_
        intro K hK
        go_simp
        refine (rslot_any _ N).mono ?_
        rintro e wq2 ⟨rfl, hb⟩
        rw [KK.out]
        go_wp2_with fail
        refine hK _ _ (hb.mono Gq1.out.size) ?_
        clear hK K
        have Gq2 := Lib.hid (Gq1.out.trans (hb.mono Gq1.out.size))
        have Yq2 := Lib.hid (Yq1.out.below hb)
        have Iq2 := Lib.hid (Iq1.out.below hb)
        clear hb
        refine sch_take (.int .i64 ((4096 * kk : Nat) : Int)) rfl (fun u hu => exec_page _ _ rfl kk KL.out rfl rfl) ?_
        simp only [Act.put, List.setIfInBounds_toArray, List.set_cons_zero, List.set_cons_succ]
        refine sch_call rfl ?_
        intro K hK
        go_simp
        refine (rslot_any _ N).mono ?_
        rintro e wq3 ⟨rfl, hb⟩
        rw [KK.out]
        go_wp2_with fail
        refine hK _ _ (hb.mono Gq2.out.size) ?_
        clear hK K
        have Gq3 := Lib.hid (Gq2.out.trans (hb.mono Gq2.out.size))
        have Yq3 := Lib.hid (Yq2.out.below hb)
        have Iq3 := Lib.hid (Iq2.out.below hb)
        clear hb
        refine sch_take (.int .i64 ((4096 * kk : Nat) : Int)) rfl (fun u hu => exec_page _ _ rfl kk KL.out rfl rfl) ?_
        simp only [Act.put, List.setIfInBounds_toArray, List.set_cons_zero, List.set_cons_succ]
        refine sch_take (.int .i64 ((4096 * kk + 4096 : Nat) : Int)) rfl (fun u hu => exec_page2 _ _ rfl kk KL.out rfl rfl) ?_
        simp only [Act.put, List.setIfInBounds_toArray, List.set_cons_zero, List.set_cons_succ]
        refine sch_take (.slice A5 n5 c5) rfl (fun u hu => exec_cut MR.out _ _ _ rfl rfl rfl rfl u) ?_
        simp only [Act.put, List.setIfInBounds_toArray, List.set_cons_zero, List.set_cons_succ]
        refine sch_call rfl ?_
        intro K hK
        have J := Lib.hid (MB.out _ Iq3.out)
        go_simp
        refine (RD.out _ _ J.out).mono ?_
        rintro e wq4 ⟨rfl, hb⟩
        go_wp2_with fail
        refine hK _ _ (hb.mono Gq3.out.size) ?_
        clear hK K
        have Gq4 := Lib.hid (Gq3.out.trans (hb.mono Gq3.out.size))
        have Yq4 := Lib.hid (Yq3.out.below hb)
        clear hb
        (refine sch_take ?_ rfl ?_ ?_; rotate_left; (focus (intro u hu; go_simp <;> rfl)); simp only [Act.put, List.setIfInBounds_toArray, List.set_cons_zero, List.set_cons_succ])
        (refine sch_take ?_ rfl ?_ ?_; rotate_left; (focus (intro u hu; go_simp <;> rfl)); simp only [Act.put, List.setIfInBounds_toArray, List.set_cons_zero, List.set_cons_succ])
        (refine sch_take ?_ rfl ?_ ?_; rotate_left; (focus (intro u hu; go_simp <;> rfl)); simp only [Act.put, List.setIfInBounds_toArray, List.set_cons_zero, List.set_cons_succ])
        refine sch_call rfl ?_
        intro K hK
        refine wp_storeRt _ _ rfl rfl _ rfl x rfl zeroR Yq4.out ?_
        intro wz h71 h72 h73
        refine hK _ _ (below_of_trn h72 HYW.out Gq4.out.size) ?_
        clear hK K
        (refine sch_take ?_ rfl ?_ ?_; rotate_left; (focus (intro u hu; go_simp <;> rfl)); simp only [Act.put, List.setIfInBounds_toArray, List.set_cons_zero, List.set_cons_succ])
        refine sch_nil ?_
        have XZ : Hid (RBox wz X x) := (XD.out.belowB Gq4.out XD.out.lt).trn h72 (by have := XD.out.lt; have := HYW.out; omega)
        have YZ := Lib.hid h71
        have BZ := Lib.hid (FD.out.bel.trans ((Gq4.out.trans (below_of_trn h72 HYW.out Gq4.out.size)).mono FD.out.bel.size))
        clear h71 h72 h73
        go_wp2_with (first | (with_reducible (show wpList _ _ _ (⟨_, Op.load 29 _, _, _, _, _⟩ :: _) _ _); first | (refine wpList_exec rfl _ (exec_loadRt _ rfl _ rfl (XZ.out)) ?_) | (refine wpList_exec rfl _ (exec_loadRt _ rfl _ rfl (YZ.out)) ?_)) | (with_reducible (show wpList _ _ _ (⟨_, Op.binOp BinOp.eql 29 _ _ _, _, _, _, _⟩ :: _) _ _); refine wpList_exec rfl (.bool true) (exec_eqRt_same _ _ rfl rfl rfl XW.out) ?_))
        go_ret
        exact ⟨rfl, BZ.out⟩

theorem walk (w : World) (ra rb rn : Rt) (ep : Nat) (vk : Value) (keep : List Bool) (torn bytes : Int) (ha : ra.Wf) (hb : rb.Wf) (hn : rn.Wf) (hep : ep < 18446744073709551616) (hk : Rowz w vk (keep.map Value.bool)) (_ht : -9223372036854775808 ≤ torn ∧ torn ≤ 9223372036854775807) (_hb : -9223372036854775808 ≤ bytes ∧ bytes ≤ 9223372036854775807) :
    Calls Tryd.prog 6 #[.agg (rtV ra), .agg (rtV rb), .agg (rtV rn), .int .u64 (ep : Int), .agg (crashV vk torn bytes)] w fun e w' => e = .returned (.bool true) ∧ Below w.heap.size w w' := by
  by_cases h : 100 < keep.length
  · exact walk_great w ra rb rn ep vk keep torn bytes ha hb hn hep hk h
  · exact walk_few w ra rb rn ep vk keep torn bytes ha hb hn hep hk (by omega)

set_option maxRecDepth 100000 in
theorem lifted (os : Os) (started : os.Started) (H : Type) (enc : TypeId × Value → H) :
    ReturnsInHanded {} Tryd.checked os 6 .any (fun w args => (Rows.rootSafeSpec.pre enc Tryd.prog Tryd.f6 Rows.rootSafeRow.domain false w args ∧ laidMetH Tryd.prog Rows.rootSafeRow.laid w) ∧ sizedMet enc Tryd.prog Tryd.f6 (OpenSpec.ofChange Rows.rootSafeSpec) false w args) (Rows.rootSafeSpec.post enc Tryd.prog Tryd.f6 false true false false) := by
  refine returnsInHanded_of_change_and (C := Tryd.checked) (X := fun w _ => laidMetH Tryd.prog Rows.rootSafeRow.laid w) (fun _ _ _ hh h => h.of_heap hh) ownKnobs started (by kernel_rfl) Tryd.func6
    (ChangeSpec.witness_shaped (enc := enc) (C := Tryd.checked) (os := os) (X := fun w _ => laidMetH Tryd.prog Rows.rootSafeRow.laid w) false (World.laidAll Tryd.prog os Rows.rootSafeRow.laid) #[.agg (rtV zeroR), .agg (rtV zeroR), .agg (rtV zeroR), .int .u64 0, .agg (crashV (.slice none 0 0) 0 0)] 8 (World.laidAll_os _ _ _)
      (World.shaped_of_ZipB (by kernel_rfl) (by kernel_rfl)) (by kernel_rfl) (by kernel_rfl) (by kernel_rfl)
      (by rw [MakeChecks.laidMetH_plain _ _ _ (by kernel_rfl)]; exact laidMet_laidAll _ (by kernel_rfl) (by kernel_rfl))) ?_
  intro W base args ds gs before hval0 hW hcnd _ _ _
  have hval : ∀ (j : Nat) t v, Tryd.f6.params[j]? = some t → args[j]? = some v → Value.okWide Tryd.prog W .any base t v := hval0
  have hW' := hW
  obtain ⟨p, q, hA0, hV, rfl, hfz, hnd⟩ := hW
  have hA : DataW.TrodAll enc Tryd.prog W 0 (fun _ => true) true Tryd.f6.params.toList args.toList ds p := hA0
  rw [Tryd.params6] at hA hval
  obtain ⟨v0, vs0, d0, ds0, p0, q0, hargs, rfl, rfl, h0, r0⟩ := trodAll_cons hA
  obtain ⟨v1, vs1, d1, ds1, p1, q1, rfl, rfl, rfl, h1, r1⟩ := trodAll_cons r0
  obtain ⟨v2, vs2, d2, ds2, p2, q2, rfl, rfl, rfl, h2, r2⟩ := trodAll_cons r1
  obtain ⟨v3, vs3, d3, ds3, p3, q3, rfl, rfl, rfl, h3, r3⟩ := trodAll_cons r2
  obtain ⟨v4, vs4, d4, ds4, p4, q4, rfl, rfl, rfl, h4, r4⟩ := trodAll_cons r3
  obtain ⟨rfl, rfl, rfl⟩ := trodAll_nil r4
  obtain rfl : args = #[v0, v1, v2, v3, v4] := by cases args; simp_all
  obtain ⟨rfl, rfl⟩ := trodVars_none hV
  have k0 := h0
  have lt0 : ∀ x ∈ p0, x.block < W.heap.size := by obtain ⟨m, hm⟩ := k0; exact DataW.trod_lt m _ _ _ hm
  obtain ⟨rt0, rfl, b0⟩ := open_root (hval 0 29 v0 rfl rfl) h0
  have k1 := h1
  have lt1 : ∀ x ∈ p1, x.block < W.heap.size := by obtain ⟨m, hm⟩ := k1; exact DataW.trod_lt m _ _ _ hm
  obtain ⟨rt1, rfl, b1⟩ := open_root (hval 1 29 v1 rfl rfl) h1
  have k2 := h2
  have lt2 : ∀ x ∈ p2, x.block < W.heap.size := by obtain ⟨m, hm⟩ := k2; exact DataW.trod_lt m _ _ _ hm
  obtain ⟨rt2, rfl, b2⟩ := open_root (hval 2 29 v2 rfl rfl) h2
  obtain ⟨a3, rfl, rfl, rfl, w3⟩ := open_int Tryd.underlying26 (hval 3 26 v3 rfl rfl) h3
  obtain ⟨n3, rfl, b3⟩ := open_u64 w3
  have k4 := h4
  have lt4 : ∀ x ∈ p4, x.block < W.heap.size := by obtain ⟨m, hm⟩ := k4; exact DataW.trod_lt m _ _ _ hm
  obtain ⟨vk4, kp4, to4, by4, rfl, b4, bt4, bb4⟩ := open_crash (hval 4 50 v4 rfl rfl) h4
  clear hA0 hval0
  refine (walk W rt0 rt1 rt2 n3 vk4 kp4 to4 by4 b0 b1 b2 b3 b4 bt4 bb4).mono fun e W' ⟨he, bel⟩ => ?_
  subst he
  exact ⟨_, rfl, _, _, _, [], _, [], hW', trodAll_mk1 (shut_bool Tryd.underlying4 _), (trodAll_cons_mk (Below.trod laidOuts (by kernel_rfl) (of_decide_eq_true (by kernel_rfl)) k0 bel lt0) (trodAll_cons_mk (Below.trod laidOuts (by kernel_rfl) (of_decide_eq_true (by kernel_rfl)) k1 bel lt1) (trodAll_cons_mk (Below.trod laidOuts (by kernel_rfl) (of_decide_eq_true (by kernel_rfl)) k2 bel lt2) (trodAll_cons_mk (shut_int Tryd.underlying26 w3) (trodAll_cons_mk (Below.trod laidOuts (by kernel_rfl) (of_decide_eq_true (by kernel_rfl)) k4 bel lt4) trodAll_mk0))))), rfl, bel.frame _, fun h => by cases h⟩

theorem over : Rows.rootSafeRow.holds Tryd.pinned (OpenSpec.ofChange Rows.rootSafeSpec) :=
  OpenClaim.holds_of_wide 6 Tryd.f6 rfl rfl rfl rfl rfl rfl rfl ⟨rfl, rfl, rfl, rfl, rfl⟩ rfl rfl rfl rfl rfl (by kernel_rfl) Tryd.func6 (by kernel_rfl)
    (of_decide_eq_true (by kernel_rfl)) (by unfold Func.isWrapper; first | (rw [if_pos (by decide +kernel)]; kernel_rfl) | (rw [if_neg (by decide +kernel)]; exact ⟨rfl, rfl⟩))
    (fun os started H enc _ => lifted os started H enc)

theorem proved : Rows.RootSafeCardSaid :=
  Claim7.holds_tied_plain_at .later [] [.data, .pinned] true Rows.rootSafeCard.stood.harness false over (fun _ h => by cases h) (by kernel_rfl) (fun _ h => by cases h) rootSafe_row_tie rfl ⟨rfl, rfl⟩ (by kernel_rfl) rfl
    (fun f fn hf hfn => by
      obtain rfl : f = 6 := Option.some.inj ((show Tryd.prog.funcNamed "tallyman/tallymanlaw06.RootSafe" = some 6 by kernel_rfl).symm.trans hf) |>.symm
      obtain rfl : fn = Tryd.f6 := (Option.some.inj (Tryd.func6.symm.trans hfn)).symm
      exact ⟨by kernel_rfl, fun j t ht => by
        rw [Tryd.params6] at ht
        have hm : t ∈ [29, 29, 29, 26, 50] := by simpa using Array.mem_of_getElem? ht
        have hall : ([29, 29, 29, 26, 50].all fun u => !Tryd.prog.wantsStandIn u) = true := by kernel_rfl
        exact (show Tryd.prog.wantsStandIn t = false by simpa using List.all_eq_true.1 hall t hm)⟩)
    (by kernel_rfl)
#print axioms proved
end Go.Proofs.YteeljcnmgfjcmaaDoor.rootSafe
