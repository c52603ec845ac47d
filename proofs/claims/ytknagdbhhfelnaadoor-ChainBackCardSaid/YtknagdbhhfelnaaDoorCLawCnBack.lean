/-
  The statement ChainBack: what was written is read, as long as none of its pages is written otherwise. Conditions: none.
-/
import Derived.Test.YtknagdbhhfelnaaDoorCCnO
import Derived.Test.YtknagdbhhfelnaaDoorMg5
namespace Go.Proofs.YtknagdbhhfelnaaDoor.chainBack
open Go.ChangeShapes Go.WideShapes Go.ChangeAt Go.RowKit Go.Maps
set_option maxRecDepth 100000
set_option linter.unusedVariables false

def PbRel (w : World) (t n : Nat) (v i : Value) (wr : World) : Prop := ∃ (q : Nat) (A : Option Addr) (c : Nat), v = .slice A q c ∧ q ≤ n ∧ i = .int .i64 (q : Int) ∧ OwnV wr w.heap.size 3 v (natC (psB t q)) ∧ Below w.heap.size w wr
set_option maxRecDepth 100000 in
set_option maxHeartbeats 16000000 in
theorem walk_short (w : World) (va vb : Value) (a b : List UInt8) (turn evict : Int) (na nb n m N t : Nat) (hva : Byt w va a) (hvb : Byt w vb b) (hna : a.length = na) (hnb : b.length = nb) (ha2 : na ≤ 20000) (hb2 : nb ≤ 20000) (hn : needN na = n) (hm : needN nb = m) (hN : n + m = N) (ht : turn % 28 = (t : Int)) :
    Calls Tryd.prog 4 #[va, vb, .int .i64 turn, .int .i64 evict] w fun e w' => e = .returned (.bool true) ∧ Below w.heap.size w w' := by
  obtain ⟨i0, hi0, hz0, hz1, hz2⟩ := info_parts iinfo
  obtain ⟨Aa, na', ca, rfl, Na, hac, hacm⟩ := hva.form
  obtain rfl : na' = na := Na.out.trans hna
  obtain ⟨Ab, nb', cb, rfl, Nb, hbc, hbcm⟩ := hvb.form
  obtain rfl : nb' = nb := Nb.out.trans hnb
  have HVA := Lib.hid hva
  have HVB := Lib.hid hvb
  have HNA := Lib.hid hna
  have HNB := Lib.hid hnb
  have HPK : Hid (∀ W, Calls Tryd.prog 14 #[.int .i64 turn, .int .i64 28] W fun e w' => e = .returned (.int .i64 (t : Int)) ∧ W = w') := fun W => ht ▸ pick_any turn 28 W (by omega) (by omega)
  have HND1 : Hid (∀ W, Calls Tryd.prog 13 #[.int .i64 (na' : Int)] W fun e w' => e = .returned (.int .i64 (n : Int)) ∧ W = w') := fun W => by
    have := cneed_any W (na' : Int) (by omega)
    rw [show needI (na' : Int) = needN na' from rfl, hn] at this
    exact this
  have HND2 : Hid (∀ W, Calls Tryd.prog 13 #[.int .i64 (nb' : Int)] W fun e w' => e = .returned (.int .i64 (m : Int)) ∧ W = w') := fun W => by
    have := cneed_any W (nb' : Int) (by omega)
    rw [show needI (nb' : Int) = needN nb' from rfl, hm] at this
    exact this
  have hn5 : 1 ≤ n ∧ n ≤ 5 := hn ▸ ⟨needN_pos _, needN_le (by omega) (by omega)⟩
  have hm5 : 1 ≤ m ∧ m ≤ 5 := hm ▸ ⟨needN_pos _, needN_le (by omega) (by omega)⟩
  have HNM := Lib.hid (And.intro hn5 (And.intro hm5 hN))
  have ht28 : t < 28 := by omega
  have HT28 := Lib.hid ht28
  have hA20 : (na' : Int) ≤ 20000 := by omega
  have hB20 : (nb' : Int) ≤ 20000 := by omega
  have hlim : ¬ (28 : Int) < (n : Int) + (m : Int) := by omega
  obtain ⟨ps1, hp1⟩ : ∃ ps1, ps1 = (psB t N).take n := ⟨_, rfl⟩
  obtain ⟨ps2, hp2⟩ : ∃ ps2, ps2 = (psB t N).drop n := ⟨_, rfl⟩
  have l1 : ps1.length = n := by rw [hp1, List.length_take, psB_len]; omega
  have l2 : ps2.length = m := by rw [hp2, List.length_drop, psB_len]; omega
  have m1 : mayP ps1 := hp1 ▸ psB_take t N n (by omega)
  have m2 : mayP ps2 := hp2 ▸ psB_drop t N n (by omega)
  have HTC := Lib.hid (two_chains (fun _ => List.replicate 4096 0) ps1 ps2 a b m1 m2 (by rw [l1, hna, hn]) (by rw [l2, hnb, hm]) (by rw [hp1, hp2]; exact psB_apart t N n (by omega)) (by omega) (by omega))
  have i1 : ∀ x ∈ ps1, x < 30 := fun x hx => (psB_in t N x (by rw [hp1] at hx; exact (List.take_sublist _ _).subset hx)).2
  have i2 : ∀ x ∈ ps2, x < 30 := fun x hx => (psB_in t N x (by rw [hp2] at hx; exact (List.drop_sublist _ _).subset hx)).2
  have HSN := Lib.hid (((Sane.zero 30).wrote (k := 2) (b := a) m1 i1 (by omega)).wrote (k := 3) (b := b) m2 i2 (by omega))
  have HI1 := Lib.hid i1
  have HI2 := Lib.hid i2
  have HM1 := Lib.hid m1
  have HM2 := Lib.hid m2
  have HL1 : Hid (ps1.length = n ∧ ps1.length = needN a.length) := ⟨l1, by rw [l1, hna, hn]⟩
  have HL2 : Hid (ps2.length = m ∧ ps2.length = needN b.length) := ⟨l2, by rw [l2, hnb, hm]⟩
  have HP1 := Lib.hid hp1
  have HP2 := Lib.hid hp2
  have HLA : Hid (a.length ≤ 1073741824 ∧ b.length ≤ 1073741824) := ⟨by omega, by omega⟩
  clear hva hvb hna hnb hn hm hN ht ht28 hn5 hm5 hp1 hp2 l1 l2 m1 m2 i1 i2 Na Nb
  go_enter Tryd.func4, Tryd.ntmps4
  go_wp2_with fail
  refine (lives9_any w).mono ?_
  rintro e w1 ⟨rfl, hb1⟩
  have HB1 := Lib.hid hb1
  clear hb1
  go_wp2_with fail
  refine (snew_any w1 240 (by omega) (by omega)).mono ?_
  rintro e w2 ⟨d, rfl, hd2, hb2⟩
  have HD2 := Lib.hid hd2
  have HB2 := Lib.hid hb2
  clear hd2 hb2
  go_wp2_with fail
  refine (pnew_is w2 _ d (newS 240) 8 HD2.out (by rw [secs_new]; omega) (by omega) (by omega)).mono ?_
  rintro e w3 ⟨p, fb, rfl, hp3, hb3⟩
  obtain ⟨T, hpt, hT⟩ := plt_new (n := 30) (by omega) (by omega) hp3 HB2.out.size
  have HPT := Lib.hid hpt
  have HT : Hid (∀ k, T k → w.heap.size ≤ k) := fun k hk => Nat.le_trans HB1.out.size (hT k hk)
  have HB3 : Hid (Below w.heap.size w w3) := HB1.out.trans ((HB2.out.mono HB1.out.size).trans (hb3.mono (Nat.le_trans HB1.out.size HB2.out.size)))
  clear hp3 hb3 hpt hT
  go_wp2_with fail
  refine (HND1.out w3).mono ?_
  rintro e w3' ⟨rfl, rfl⟩
  go_wp2_with fail
  refine (HND2.out w3).mono ?_
  rintro e w3' ⟨rfl, rfl⟩
  go_wp2_with fail
  go_loopw [15, 16] (fun v i wr => PbRel w3 t N v i wr) (fun _ i _ => N - (intOf i).toNat)
  case atStart => exact ⟨0, none, 0, rfl, Nat.zero_le _, rfl, OwnV.nil _ _ _, Below.refl _ _⟩
  case round =>
    obtain ⟨q, Av, cv, rfl, hq, rfl, hown, hbel⟩ := hrel
    have HO := Lib.hid hown
    have HBL := Lib.hid hbel
    clear hown hbel
    by_cases hlt : q < N
    · have hqn : (q : Int) < (n : Int) + (m : Int) := by have := HNM.out; omega
      have HPS : Hid (natC (psB t (q + 1)) = natC (psB t q) ++ [.int .i64 (2 + ((q : Int) * 11 + (t : Int)) % 28)]) := by
        rw [Hid, psB_snoc, natC_app]
        have : ((2 + (q * 11 + t) % 28 : Nat) : Int) = 2 + ((q : Int) * 11 + (t : Int)) % 28 := by omega
        simp [natC, this]
      have hq10 : q < 10 := by have := HNM.out; omega
      have ht28 := HT28.out
      go_wp2_with fail
      refine (HPK.out wr).mono ?_
      rintro e wr' ⟨rfl, rfl⟩
      go_wp2_with (at_builtin; refine wpList_appV rfl (.tmp 66) (.tmp 74) _ rfl w3.heap.size 3 8 i0 _ Tryd.underlying26 hi0 hz0 hz1 hz2 rfl _ (natC (psB t q)) rfl (HO.out.keep (below_new wr _)) _ [.int .i64 (2 + ((q : Int) * 11 + (t : Int)) % 28)] rfl (Rowz.litV wr [.int .i64 (2 + ((q : Int) * 11 + (t : Int)) % 28)] 3 (by simp [maxLen])) (by simp [Value.oneCell']) (by rw [natC_len, psB_len]; simp only [List.length_cons, List.length_nil]; omega) (by rw [natC_len, psB_len]; simp only [List.length_cons, List.length_nil, maxLen]; omega) (by have := HBL.out.size; simp; omega) ?_; intro v4 w4 hown4 hg4 hat4; have hb4 := OwnV.below (HO.out.keep (below_new wr (.cells #[.int .i64 (2 + ((q : Int) * 11 + (t : Int)) % 28)] 3))) (HBL.out.alloc HBL.out.size _) (by have := HBL.out.size; simp; omega) hg4)
      go_roundw
      case rel =>
        obtain ⟨A3, c3, rfl⟩ := ownsRow_form hown4
        exact ⟨q + 1, A3, c3, by rw [← HPS.out, natC_len, psB_len], by omega, by go_num, by rw [HPS.out]; exact hown4, hb4⟩
      case measure => simp [intOf]; omega
    · obtain rfl : N = q := by omega
      have hnl : ¬ (N : Int) < (n : Int) + (m : Int) := by have := HNM.out; omega
      have hN0 : 0 < (natC (psB t N)).length := by rw [natC_len, psB_len]; have := HNM.out; omega
      obtain ⟨g, c0, eg, hg1, hg2, hgc, hgm, hcell, _⟩ := OwnV.form HO.out hN0
      rw [natC_len, psB_len] at hgc eg
      cases eg
      have hlN : (natC (psB t N)).length = N := by rw [natC_len, psB_len]
      have HPLw : Hid (PlT wr T p d fb 30 8 (fun _ => List.replicate 4096 0)) := HPT.out.below HBL.out
      have HAL : Hid (Kept wr T 3 (.slice (some ⟨g, 0, none⟩) N cv) (natC (psB t N))) := ⟨_, HO.out, fun g' e hT => by
        cases e
        have := HPT.out.lt g hT
        omega⟩
      have HPART : Hid (∀ W T', Kept W T' 3 (.slice (some ⟨g, 0, none⟩) N cv) (natC (psB t N)) → Rowz W (.slice (some ⟨g, 0, none⟩) n cv) (natC ps1) ∧ Rowz W (.slice (some ⟨g, n, none⟩) m (cv - n)) (natC ps2) ∧ W.cell? ⟨g, 0, none⟩ = some (.int .i64 ((ps1.getD 0 0 : Nat) : Int)) ∧ W.cell? ⟨g, n, none⟩ = some (.int .i64 ((ps2.getD 0 0 : Nat) : Int))) := fun W T' h => by
        obtain ⟨B', h1, _⟩ := h
        have hnm := HNM.out
        have r1 := ownV_part h1 hlN 0 n (by omega) hN0
        have r2 := ownV_part h1 hlN n m (by omega) hN0
        obtain ⟨g', c', e', _, _, _, _, hc, _⟩ := OwnV.form h1 hN0
        rw [natC_len, psB_len] at e'
        cases e'
        have hq : ∀ i (hi : i < N), (natC (psB t N))[i]'(by omega) = .int .i64 (((psB t N).getD i 0 : Nat) : Int) := fun i hi => by
          have : i < (psB t N).length := by rw [psB_len]; exact hi
          simp only [natC, List.getElem_map]
          rw [List.getD_eq_getElem?_getD, List.getElem?_eq_getElem this]
          rfl
        have e1 : ps1.getD 0 0 = (psB t N).getD 0 0 := by
          rw [HP1.out, List.getD_eq_getElem?_getD, List.getElem?_take, if_pos (by omega), ← List.getD_eq_getElem?_getD]
        have e2 : ps2.getD 0 0 = (psB t N).getD n 0 := by
          rw [HP2.out, List.getD_eq_getElem?_getD, List.getElem?_drop, ← List.getD_eq_getElem?_getD, Nat.add_zero]
        refine ⟨?_, ?_, ?_, ?_⟩
        · rw [HP1.out, natC_take]; exact r1
        · rw [HP2.out, natC_drop]
          rw [List.take_of_length_le (by rw [List.length_drop]; omega)] at r2
          exact r2
        · rw [hc 0 (by omega), hq 0 (by omega), e1]
        · rw [hc n (by omega), hq n (by omega), e2]
      have HS1 := Lib.hid (ints_to g N cv n (by have := HNM.out; omega) (by have := HNM.out; omega) hgc)
      have hS2 := ints_from g N cv n (by have := HNM.out; omega) hgc
      rw [show N - n = m by have := HNM.out; omega] at hS2
      have HS2 := Lib.hid hS2
      have hz := HPLw.out.lt
      have HBW : Hid (Below w.heap.size w wr) := HB3.out.trans (HBL.out.mono HB3.out.size)
      clear hz hcell hgc hgm hg1 hg2 hN0 hlN hS2 hlt hq HO HBL HB3
      have hS1 := HS1.out
      go_wp2_with fail
      clear hS1
      refine (cwrite_ok wr T p d fb 30 8 _ 2 _ n cv _ ps1 a HPLw.out (HPART.out _ _ HAL.out).1 (HVA.out.below HBW.out) HLA.out.1 (.inl rfl) HL1.out.2 HM1.out HI1.out (fun j hj => by cases hj; obtain ⟨_, _, h⟩ := HAL.out; exact h g rfl)).mono ?_
      rintro e w5 ⟨rfl, ho5⟩
      obtain ⟨T5, hpt5, hT5, hm5, ht5, hb5⟩ := ho5.own (B := w.heap.size) HBW.out.size HT.out
      have HPT5 := Lib.hid hpt5
      have HT5 := Lib.hid hT5
      have HAL5 : Hid (Kept w5 T5 3 (.slice (some ⟨g, 0, none⟩) N cv) (natC (psB t N))) := HAL.out.step ht5 hm5
      have HB5 : Hid (Below w.heap.size w w5) := HBW.out.trans hb5
      clear ho5 hpt5 hT5 hm5 ht5 hb5
      have hS2 := HS2.out
      go_wp2_with fail
      clear hS2
      refine (cwrite_ok w5 T5 p d fb 30 8 _ 3 _ m (cv - n) _ ps2 b HPT5.out (HPART.out _ _ HAL5.out).2.1 (HVB.out.below HB5.out) HLA.out.2 (.inr (.inl rfl)) HL2.out.2 HM2.out HI2.out (fun j hj => by cases hj; obtain ⟨_, _, h⟩ := HAL5.out; exact h g rfl)).mono ?_
      rintro e w6 ⟨rfl, ho6⟩
      obtain ⟨T6, hpt6, hT6, hm6, ht6, hb6⟩ := ho6.own (B := w.heap.size) HB5.out.size HT5.out
      have HPT6 := Lib.hid hpt6
      have HT6 := Lib.hid hT6
      have HAL6 : Hid (Kept w6 T6 3 (.slice (some ⟨g, 0, none⟩) N cv) (natC (psB t N))) := HAL5.out.step ht6 hm6
      have HB6 : Hid (Below w.heap.size w w6) := HB5.out.trans hb6
      clear ho6 hpt6 hT6 hm6 ht6 hb6
      go_wp2_with fail
      refine (pick_any evict 8 w6 (by omega) (by omega)).mono ?_
      rintro e w6' ⟨rfl, rfl⟩
      go_wp2_with fail
      refine (cevict_any HPT6.out (evict % 8)).mono ?_
      rintro e w7 ⟨y, rfl, ho7⟩
      obtain ⟨T7, hpt7, hT7, hm7, ht7, hb7⟩ := ho7.own (B := w.heap.size) HB6.out.size HT6.out
      have HPT7 := Lib.hid hpt7
      have HT7 := Lib.hid hT7
      have HAL7 : Hid (Kept w7 T7 3 (.slice (some ⟨g, 0, none⟩) N cv) (natC (psB t N))) := HAL6.out.step ht7 hm7
      have HB7 : Hid (Below w.heap.size w w7) := HB6.out.trans hb7
      clear ho7 hpt7 hT7 hm7 ht7 hb7
      have hc0 := (HPART.out _ _ HAL7.out).2.2.1
      have hNp : 0 < N := by have := HNM.out; omega
      have hnN : (n : Int) < (N : Int) := by have := HNM.out; omega
      have HH1 : Hid (2 ≤ ps1.getD 0 0 ∧ ps1.getD 0 0 < 30) := by
        have := getD_in (l := ps1) (i := 0) (by have := HNM.out; have := HL1.out.1; omega)
        exact ⟨(HM1.out.2 _ this).1, HI1.out _ this⟩
      have HH2 : Hid (2 ≤ ps2.getD 0 0 ∧ ps2.getD 0 0 < 30) := by
        have := getD_in (l := ps2) (i := 0) (by have := HNM.out; have := HL2.out.1; omega)
        exact ⟨(HM2.out.2 _ this).1, HI2.out _ this⟩
      generalize ps1.getD 0 0 = h1 at *
      generalize ps2.getD 0 0 = h2 at *
      have e31 : ((n - 1 : Nat) : Int) = (n : Int) - 1 := by have := HNM.out; omega
      have HE31 := Lib.hid e31
      clear e31
      go_wp2_with fail
      clear hc0
      refine (cread_is w7 T7 p d fb 30 8 _ 2 h1 n HPT7.out (.inl rfl) HH1.out.1 HH1.out.2 (HSN.out.closed 2) (by have := HNM.out; omega)).mono ?_
      intro e w8 ho8
      obtain ⟨T8, hpt8, hT8, hm8, ht8, hb8, hend⟩ := ho8.own (B := w.heap.size) HB7.out.size HT7.out
      rw [HTC.out.1 n, if_pos (by have := HL1.out.1; omega)] at hend
      obtain ⟨bv, pv, rfl, hob, hop, hbT, hpT⟩ := hend
      obtain ⟨Ax, cx, rfl⟩ := ownsRow_form hob
      obtain ⟨Al, cl, rfl⟩ := ownsRow_form hop
      have HX8 : Hid (KeptB w8 T8 (.slice Ax a.length cx) a) := ⟨_, hob, hbT⟩
      have HY8 : Hid (Kept w8 T8 3 (.slice Al (natC ps1).length cl) (natC ps1)) := ⟨_, hop, hpT⟩
      have hend := hob
      clear hob hop hbT hpT
      have HPT8 := Lib.hid hpt8
      have HT8 := Lib.hid hT8
      have HAL8 : Hid (Kept w8 T8 3 (.slice (some ⟨g, 0, none⟩) N cv) (natC (psB t N))) := HAL7.out.step ht8 hm8
      have HB8 : Hid (Below w.heap.size w w8) := HB7.out.trans hb8
      clear ho8 hpt8 hT8 hm8 ht8 hb8 hend
      have hcn := (HPART.out _ _ HAL8.out).2.2.2
      go_wp2_with fail
      clear hcn
      refine (cread_is w8 T8 p d fb 30 8 _ 3 h2 30 HPT8.out (.inr (.inl rfl)) HH2.out.1 HH2.out.2 (HSN.out.closed 3) (by have := HNM.out; omega)).mono ?_
      intro e w9 ho9
      obtain ⟨T9, hpt9, hT9, hm9, ht9, hb9, hend⟩ := ho9.own (B := w.heap.size) HB8.out.size HT8.out
      rw [HTC.out.2.1 30, if_pos (by have := HL2.out.1; have := HNM.out; omega)] at hend
      obtain ⟨bv, pv, rfl, hob, hop, hbT, hpT⟩ := hend
      obtain ⟨Ay, cy, rfl⟩ := ownsRow_form hob
      obtain ⟨Ak, ck, rfl⟩ := ownsRow_form hop
      have HZ9 : Hid (KeptB w9 T9 (.slice Ay b.length cy) b) := ⟨_, hob, hbT⟩
      have HK9 : Hid (Kept w9 T9 3 (.slice Ak (natC ps2).length ck) (natC ps2)) := ⟨_, hop, hpT⟩
      have hend := hob
      clear hob hop hbT hpT
      have HPT9 := Lib.hid hpt9
      have HT9 := Lib.hid hT9
      have HAL9 : Hid (Kept w9 T9 3 (.slice (some ⟨g, 0, none⟩) N cv) (natC (psB t N))) := HAL8.out.step ht9 hm9
      have HX9 : Hid (KeptB w9 T9 (.slice Ax a.length cx) a) := HX8.out.step ht9 hm9
      have HY9 : Hid (Kept w9 T9 3 (.slice Al (natC ps1).length cl) (natC ps1)) := HY8.out.step ht9 hm9
      have HB9 : Hid (Below w.heap.size w w9) := HB8.out.trans hb9
      clear ho9 hpt9 hT9 hm9 ht9 hb9 hend
      have hc0 := (HPART.out _ _ HAL9.out).2.2.1
      go_wp2_with fail
      clear hc0
      refine (HE31.out ▸ cread_is w9 T9 p d fb 30 8 _ 2 h1 (n - 1) HPT9.out (.inl rfl) HH1.out.1 HH1.out.2 (HSN.out.closed 2) (by have := HNM.out; omega)).mono ?_
      intro e w10 ho10
      obtain ⟨T10, hpt10, hT10, hm10, ht10, hb10, hend⟩ := ho10.own (B := w.heap.size) HB9.out.size HT9.out
      rw [HTC.out.1 (n - 1), if_neg (by have := HL1.out.1; have := HNM.out; omega)] at hend
      obtain rfl : e = .returned (.tuple #[.slice none 0 0, .slice none 0 0, .int .i64 4]) := hend
      have HPT10 := Lib.hid hpt10
      have HT10 := Lib.hid hT10
      have HAL10 : Hid (Kept w10 T10 3 (.slice (some ⟨g, 0, none⟩) N cv) (natC (psB t N))) := HAL9.out.step ht10 hm10
      have HX10 : Hid (KeptB w10 T10 (.slice Ax a.length cx) a) := HX9.out.step ht10 hm10
      have HY10 : Hid (Kept w10 T10 3 (.slice Al (natC ps1).length cl) (natC ps1)) := HY9.out.step ht10 hm10
      have HZ10 : Hid (KeptB w10 T10 (.slice Ay b.length cy) b) := HZ9.out.step ht10 hm10
      have HK10 : Hid (Kept w10 T10 3 (.slice Ak (natC ps2).length ck) (natC ps2)) := HK9.out.step ht10 hm10
      have HB10 : Hid (Below w.heap.size w w10) := HB9.out.trans hb10
      clear ho10 hpt10 hT10 hm10 ht10 hb10
      have hc0 := (HPART.out _ _ HAL10.out).2.2.1
      go_wp2_with fail
      clear hc0
      refine (cread_is w10 T10 p d fb 30 8 _ 7 h1 30 HPT10.out (.inr (.inr rfl)) HH1.out.1 HH1.out.2 (HSN.out.closed 7) (by have := HNM.out; omega)).mono ?_
      intro e w11 ho11
      obtain ⟨T11, hpt11, hT11, hm11, ht11, hb11, hend⟩ := ho11.own (B := w.heap.size) HB10.out.size HT10.out
      rw [HTC.out.2.2 30] at hend
      obtain rfl : e = .returned (.tuple #[.slice none 0 0, .slice none 0 0, .int .i64 4]) := hend
      have HPT11 := Lib.hid hpt11
      have HT11 := Lib.hid hT11
      have HAL11 : Hid (Kept w11 T11 3 (.slice (some ⟨g, 0, none⟩) N cv) (natC (psB t N))) := HAL10.out.step ht11 hm11
      have HX11 : Hid (KeptB w11 T11 (.slice Ax a.length cx) a) := HX10.out.step ht11 hm11
      have HY11 : Hid (Kept w11 T11 3 (.slice Al (natC ps1).length cl) (natC ps1)) := HY10.out.step ht11 hm11
      have HZ11 : Hid (KeptB w11 T11 (.slice Ay b.length cy) b) := HZ10.out.step ht11 hm11
      have HK11 : Hid (Kept w11 T11 3 (.slice Ak (natC ps2).length ck) (natC ps2)) := HK10.out.step ht11 hm11
      have HB11 : Hid (Below w.heap.size w w11) := HB10.out.trans hb11
      clear ho11 hpt11 hT11 hm11 ht11 hb11
      have t1 := text_of HX11.out.byt
      have t2 := text_of (HVA.out.below HB11.out)
      have t3 := text_of HZ11.out.byt
      have t4 := text_of (HVB.out.below HB11.out)
      have hS1 := HS1.out
      have E1 := bytes_eq a a
      have E2 := bytes_eq b b
      rw [decide_eq_true rfl] at E1 E2
      generalize (⟨a.toArray⟩ : ByteArray) = s1 at *
      generalize (⟨b.toArray⟩ : ByteArray) = s2 at *
      go_wp2_with fail
      clear t1 t2 t3 t4 E1 E2 hS1
      refine (kitints_any w11 _ _ ps1 ps1 HY11.out.rowz (HPART.out _ _ HAL11.out).1).mono ?_
      rintro e w12 ⟨rfl, hb12⟩
      rw [decide_eq_true (rfl : ps1 = ps1)]
      have HK12 := Lib.hid (HK11.out.below hb12).rowz
      have HP12 := Lib.hid (HPART.out _ _ (HAL11.out.below hb12)).2.1
      have HB12 : Hid (Below w.heap.size w w12) := HB11.out.trans (hb12.mono HB11.out.size)
      clear hb12
      have hS2 := HS2.out
      go_wp2_with fail
      clear hS2
      refine (kitints_any w12 _ _ ps2 ps2 HK12.out HP12.out).mono ?_
      rintro e w13 ⟨rfl, hb13⟩
      rw [decide_eq_true (rfl : ps2 = ps2)]
      have HB13 : Hid (Below w.heap.size w w13) := HB12.out.trans (hb13.mono HB12.out.size)
      clear hb13
      go_wp2_with fail
      go_ret
      exact ⟨rfl, HB13.out⟩
set_option maxRecDepth 100000 in
theorem walk (w : World) (va : Value) (a : List UInt8) (vb : Value) (b : List UInt8) (turn evict : Int) (hva : Byt w va a) (hvb : Byt w vb b) (h1 : -9223372036854775808 ≤ turn ∧ turn ≤ 9223372036854775807) (h2 : -9223372036854775808 ≤ evict ∧ evict ≤ 9223372036854775807) :
    Calls Tryd.prog 4 #[va, vb, .int .i64 turn, .int .i64 evict] w fun e w' => e = .returned (.bool true) ∧ Below w.heap.size w w' := by
  by_cases h20 : a.length ≤ 20000 ∧ b.length ≤ 20000
  · have hj1 := Int.emod_nonneg turn (show (28 : Int) ≠ 0 by omega)
    exact walk_short w va vb a b turn evict _ _ _ _ _ (turn % 28).toNat hva hvb rfl rfl h20.1 h20.2 rfl rfl rfl (by omega)
  · obtain ⟨Aa, na, ca, rfl, Na, _, _⟩ := hva.form
    obtain ⟨Ab, nb, cb, rfl, Nb, _, _⟩ := hvb.form
    have hna : na = a.length := Na.out
    have hnb : nb = b.length := Nb.out
    have hc : (20000 : Int) < (na : Int) ∨ ¬ (20000 : Int) < (na : Int) ∧ (20000 : Int) < (nb : Int) := by omega
    clear h20 hna hnb Na Nb
    rcases hc with hc | ⟨hc, hd⟩
    · go_enter Tryd.func4, Tryd.ntmps4
      go_wp2_with fail
      refine (lives9_any w).mono ?_
      rintro e w1 ⟨rfl, hb1⟩
      have HB1 := Lib.hid hb1
      clear hb1
      go_wp2_with fail
      go_ret
      exact ⟨rfl, HB1.out⟩
    · go_enter Tryd.func4, Tryd.ntmps4
      go_wp2_with fail
      refine (lives9_any w).mono ?_
      rintro e w1 ⟨rfl, hb1⟩
      have HB1 := Lib.hid hb1
      clear hb1
      go_wp2_with fail
      go_ret
      exact ⟨rfl, HB1.out⟩

set_option maxRecDepth 100000 in
theorem lifted (os : Os) (started : os.Started) (H : Type) (enc : TypeId × Value → H) :
    ReturnsInHanded {} Tryd.checked os 4 .any (fun w args => (Rows.chainBackSpec.pre enc Tryd.prog Tryd.f4 Rows.chainBackRow.domain false w args ∧ laidMetH Tryd.prog Rows.chainBackRow.laid w) ∧ sizedMet enc Tryd.prog Tryd.f4 (OpenSpec.ofChange Rows.chainBackSpec) false w args) (Rows.chainBackSpec.post enc Tryd.prog Tryd.f4 false true false false) := by
  refine returnsInHanded_of_change_and (C := Tryd.checked) (X := fun w _ => laidMetH Tryd.prog Rows.chainBackRow.laid w) (fun _ _ _ hh h => h.of_heap hh) ownKnobs started (by kernel_rfl) Tryd.func4
    (ChangeSpec.witness_shaped (enc := enc) (C := Tryd.checked) (os := os) (X := fun w _ => laidMetH Tryd.prog Rows.chainBackRow.laid w) false (World.laidAll Tryd.prog os Rows.chainBackRow.laid) #[.slice none 0 0, .slice none 0 0, .int .i64 0, .int .i64 0] 8 (World.laidAll_os _ _ _)
      (World.shaped_of_ZipB (by kernel_rfl) (by kernel_rfl)) (by kernel_rfl) (by kernel_rfl) (by kernel_rfl)
      (by rw [MakeChecks.laidMetH_plain _ _ _ (by kernel_rfl)]; exact laidMet_laidAll _ (by kernel_rfl) (by kernel_rfl))) ?_
  intro W base args ds gs before hval0 hW hcnd _ _ _
  have hval : ∀ (j : Nat) t v, Tryd.f4.params[j]? = some t → args[j]? = some v → Value.okWide Tryd.prog W .any base t v := hval0
  have hW' := hW
  obtain ⟨p, q, hA0, hV, rfl, hfz, hnd⟩ := hW
  have hA : DataW.TrodAll enc Tryd.prog W 0 (fun _ => true) true Tryd.f4.params.toList args.toList ds p := hA0
  rw [Tryd.params4] at hA hval
  obtain ⟨v0, vs0, d0, ds0, p0, q0, hargs, rfl, rfl, h0, r0⟩ := trodAll_cons hA
  obtain ⟨v1, vs1, d1, ds1, p1, q1, rfl, rfl, rfl, h1, r1⟩ := trodAll_cons r0
  obtain ⟨v2, vs2, d2, ds2, p2, q2, rfl, rfl, rfl, h2, r2⟩ := trodAll_cons r1
  obtain ⟨v3, vs3, d3, ds3, p3, q3, rfl, rfl, rfl, h3, r3⟩ := trodAll_cons r2
  obtain ⟨rfl, rfl, rfl⟩ := trodAll_nil r3
  obtain rfl : args = #[v0, v1, v2, v3] := by cases args; simp_all
  obtain ⟨rfl, rfl⟩ := trodVars_none hV
  have k0 := h0
  have lt0 : ∀ x ∈ p0, x.block < W.heap.size := by obtain ⟨m, hm⟩ := k0; exact DataW.trod_lt m _ _ _ hm
  obtain ⟨l0, b0⟩ := open_bytes (hval 0 27 v0 rfl rfl) h0
  have k1 := h1
  have lt1 : ∀ x ∈ p1, x.block < W.heap.size := by obtain ⟨m, hm⟩ := k1; exact DataW.trod_lt m _ _ _ hm
  obtain ⟨l1, b1⟩ := open_bytes (hval 1 27 v1 rfl rfl) h1
  obtain ⟨a2, rfl, rfl, rfl, w2⟩ := open_int Tryd.underlying3 (hval 2 3 v2 rfl rfl) h2
  have b2 := open_i64 w2
  obtain ⟨a3, rfl, rfl, rfl, w3⟩ := open_int Tryd.underlying3 (hval 3 3 v3 rfl rfl) h3
  have b3 := open_i64 w3
  clear hA0 hval0
  refine (walk W v0 l0 v1 l1 a2 a3 b0 b1 b2 b3).mono fun e W' ⟨he, bel⟩ => ?_
  subst he
  exact ⟨_, rfl, _, _, _, [], _, [], hW', trodAll_mk1 (shut_bool Tryd.underlying4 _), (trodAll_cons_mk (Below.trod laidOuts (by kernel_rfl) (of_decide_eq_true (by kernel_rfl)) k0 bel lt0) (trodAll_cons_mk (Below.trod laidOuts (by kernel_rfl) (of_decide_eq_true (by kernel_rfl)) k1 bel lt1) (trodAll_cons_mk (shut_int Tryd.underlying3 w2) (trodAll_cons_mk (shut_int Tryd.underlying3 w3) trodAll_mk0)))), rfl, bel.frame _, fun h => by cases h⟩

theorem over : Rows.chainBackRow.holds Tryd.pinned (OpenSpec.ofChange Rows.chainBackSpec) :=
  OpenClaim.holds_of_wide 4 Tryd.f4 rfl rfl rfl rfl rfl rfl rfl ⟨rfl, rfl, rfl, rfl, rfl⟩ rfl rfl rfl rfl rfl (by kernel_rfl) Tryd.func4 (by kernel_rfl)
    (of_decide_eq_true (by kernel_rfl)) (by unfold Func.isWrapper; first | (rw [if_pos (by decide +kernel)]; kernel_rfl) | (rw [if_neg (by decide +kernel)]; exact ⟨rfl, rfl⟩))
    (fun os started H enc _ => lifted os started H enc)

theorem proved : Rows.ChainBackCardSaid :=
  Claim7.holds_tied_plain_at .later [] [.data, .pinned] true Rows.chainBackCard.stood.harness false over (fun _ h => by cases h) (by kernel_rfl) (fun _ h => by cases h) chainBack_row_tie rfl ⟨rfl, rfl⟩ (by kernel_rfl) rfl
    (fun f fn hf hfn => by
      obtain rfl : f = 4 := Option.some.inj ((show Tryd.prog.funcNamed "tallyman/tallymanlaw09.ChainBack" = some 4 by kernel_rfl).symm.trans hf) |>.symm
      obtain rfl : fn = Tryd.f4 := (Option.some.inj (Tryd.func4.symm.trans hfn)).symm
      exact ⟨by kernel_rfl, fun j t ht => by
        rw [Tryd.params4] at ht
        have hm : t ∈ [27, 27, 3, 3] := by simpa using Array.mem_of_getElem? ht
        have hall : ([27, 27, 3, 3].all fun u => !Tryd.prog.wantsStandIn u) = true := by kernel_rfl
        exact (show Tryd.prog.wantsStandIn t = false by simpa using List.all_eq_true.1 hall t hm)⟩)
    (by kernel_rfl)
#print axioms proved
end Go.Proofs.YtknagdbhhfelnaaDoor.chainBack

