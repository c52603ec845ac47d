/-
  The statement SectorFails: a fault comes once, behind as many operations as were told; what is no operation counts for nothing. Conditions: none.
-/
import Derived.Test.YtlikbnhplfchiaaSecQ
import Derived.Test.YtlikbnhplfchiaaOrd
namespace Go.Proofs.Ytlikbnhplfchiaa.sectorFails
open Go.ChangeShapes Go.WideShapes Go.ChangeAt Go.RowKit Go.Maps
set_option linter.unusedVariables false

def Fz (n af : Nat) : Option Nat := if n ≤ af then some (af - n) else none
theorem blows_Fz (n af : Nat) : blows (Fz n af) = decide (n = af) := by
  unfold Fz
  by_cases h : n ≤ af
  · rw [if_pos h]
    by_cases e : n = af
    · subst e
      rw [Nat.sub_self]
      simp [blows]
    · obtain ⟨m, hm⟩ : ∃ m, af - n = m + 1 := ⟨af - n - 1, by omega⟩
      rw [hm]
      simp [blows, e]
  · rw [if_neg h]
    have e : ¬ n = af := by omega
    simp [blows, e]
theorem tick_Fz (n af : Nat) : tickF (Fz n af) = Fz (n + 1) af := by
  unfold Fz
  by_cases h : n + 1 ≤ af
  · rw [if_pos (by omega), if_pos h]
    obtain ⟨m, hm⟩ : ∃ m, af - n = m + 1 := ⟨af - n - 1, by omega⟩
    rw [hm]
    show some m = _
    congr 1
    omega
  · rw [if_neg h]
    by_cases e : n ≤ af
    · rw [if_pos e, show af - n = 0 by omega]; rfl
    · rw [if_neg e]; rfl
theorem Dsk_drew {w : World} {S : Nat → Prop} {g : Nat} {s : St} (h : Dsk w S g s) : Dsk w.drew S g s := h.same (Nat.le_refl _) (fun _ _ => rfl)

/-- What holds ahead of each call. -/
def FailRel (w : World) (len sec af g : Nat) (cnt i : Value) (wr : World) : Prop :=
  ∃ (k n : Nat) (s : St) (S : Nat → Prop), k ≤ len ∧ n ≤ k ∧ i = .int .i64 (k : Int) ∧ cnt = .int .i64 (n : Int) ∧ Dsk wr S g s ∧ secs s = sec ∧ s.F = Fz n af ∧ (∀ x, S x → w.heap.size ≤ x) ∧ Below w.heap.size w wr
theorem failRel_mk {w wr : World} {len sec af g k n : Nat} {s : St} {S : Nat → Prop} (h1 : k ≤ len) (h2 : n ≤ k) (h3 : Dsk wr S g s) (h4 : secs s = sec) (h5 : s.F = Fz n af) (h6 : ∀ x, S x → w.heap.size ≤ x) (h7 : Below w.heap.size w wr) :
    FailRel w len sec af g (.int .i64 (n : Int)) (.int .i64 (k : Int)) wr := ⟨k, n, s, S, h1, h2, rfl, rfl, h3, h4, h5, h6, h7⟩

set_option maxRecDepth 100000 in
set_option maxHeartbeats 4000000 in
theorem walk_great (w : World) (x y : Int) (v : Value) (len : Nat) (f : Nat → ActD) (hv : Acts w v len f) (hs : ¬ smallA len f) :
    Calls Try.prog 7 #[.int .i64 x, .int .i64 y, v] w fun e w' => e = .returned (.bool true) ∧ Below w.heap.size w w' := by
  obtain ⟨A, c, rfl, hnc, hcm⟩ := hv.form
  have HV := Lib.hid hv
  clear hv
  go_enter Try.func7, Try.ntmps7
  go_wp2_with fail
  refine (lives4_any _).mono ?_
  rintro e w1 ⟨rfl, hb1⟩
  go_wp2_with fail
  refine (small_any _ _ len f (HV.out.below hb1)).mono ?_
  rintro e w2 ⟨b, rfl, hb, hb2⟩
  obtain rfl : b = false := by
    cases b
    · rfl
    · exact absurd (hb.1 rfl) hs
  have HB := Lib.hid (hb1.trans (hb2.mono hb1.size))
  clear hb1 hb2 hb
  go_wp2_with fail
  go_ret
  exact ⟨rfl, HB.out⟩

theorem rd_A {s : St} {sec : Nat} {p : Int} (h : secs s = sec) (hb : blows s.F = true) (h0 : 0 ≤ p) (h1 : p < (sec : Int)) : readR s p = ([], 8, tick s) := by
  subst h
  unfold readR
  rw [if_pos ⟨h0, h1⟩, hb]; rfl
theorem rd_B {s : St} {sec : Nat} {p : Int} (h : secs s = sec) (hb : blows s.F = false) (h0 : 0 ≤ p) (h1 : p < (sec : Int)) : readR s p = (readB s p.toNat, 0, tick s) := by
  subst h
  unfold readR
  rw [if_pos ⟨h0, h1⟩, hb]; rfl
theorem rd_out {s : St} {sec : Nat} {p : Int} (h : secs s = sec) (hn : ¬ (0 ≤ p ∧ p < (sec : Int))) : readR s p = ([], 2, s) := by
  subst h
  unfold readR
  rw [if_neg hn]
theorem fl_A {s : St} (hb : blows s.F = true) : flushR s = (8, tick s) := by unfold flushR; rw [hb]; rfl
theorem fl_B {s : St} (hb : blows s.F = false) : flushR s = (0, settleS (fun _ => 512) (tick s)) := by unfold flushR; rw [hb]; rfl
theorem wr_A {s : St} {sec : Nat} {p : Int} {a : ActD} (h : secs s = sec) (hb : blows s.F = true) (h0 : 0 ≤ p) (h1 : p < (sec : Int)) : writeR s p (actB a) = (8, tick s) := by
  subst h
  unfold writeR
  rw [if_pos ⟨⟨h0, h1⟩, actB_len a⟩, hb]; rfl
theorem wr_B {s : St} {sec : Nat} {p : Int} {a : ActD} (h : secs s = sec) (hb : blows s.F = false) (h0 : 0 ≤ p) (h1 : p < (sec : Int)) : writeR s p (actB a) = (0, writeS (tick s) p.toNat (actB a)) := by
  subst h
  unfold writeR
  rw [if_pos ⟨⟨h0, h1⟩, actB_len a⟩, hb]; rfl
theorem wr_out {s : St} {sec : Nat} {p : Int} {a : ActD} (h : secs s = sec) (hn : ¬ (0 ≤ p ∧ p < (sec : Int))) : writeR s p (actB a) = (2, s) := by
  subst h
  unfold writeR
  rw [if_neg (fun h => hn h.1)]
theorem by_num {w wr : World} {len sec af g k n : Nat} (h : FailRel w len sec af g (.int .i64 ((n + 1 : Nat) : Int)) (.int .i64 ((k + 1 : Nat) : Int)) wr) : FailRel w len sec af g (.int .i64 ((n : Int) + 1)) (.int .i64 ((k : Int) + 1)) wr := h
theorem by_num0 {w wr : World} {len sec af g k n : Nat} (h : FailRel w len sec af g (.int .i64 ((n : Nat) : Int)) (.int .i64 ((k + 1 : Nat) : Int)) wr) : FailRel w len sec af g (.int .i64 (n : Int)) (.int .i64 ((k : Int) + 1)) wr := h

set_option maxRecDepth 100000 in
set_option maxHeartbeats 40000000 in
theorem walk_few (w : World) (x y : Int) (v : Value) (len : Nat) (f : Nat → ActD) (hv : Acts w v len f) (hs : smallA len f) :
    Calls Try.prog 7 #[.int .i64 x, .int .i64 y, v] w fun e w' => e = .returned (.bool true) ∧ Below w.heap.size w w' := by
  obtain ⟨A, c, rfl, hnc, hcm⟩ := hv.form
  have HV := Lib.hid hv
  clear hv
  obtain ⟨p, hp, hp40⟩ : ∃ p : Nat, x % 40 = (p : Int) ∧ p < 40 := ⟨(x % 40).toNat, by omega, by omega⟩
  obtain ⟨af, haf, haf90⟩ : ∃ p : Nat, y % 90 = (p : Int) ∧ p < 90 := ⟨(y % 90).toNat, by omega, by omega⟩
  have P1 := Lib.hid (fun w => pick_any x 40 w (by omega) (by omega))
  have P2 := Lib.hid (fun w => pick_any y 90 w (by omega) (by omega))
  rw [hp] at P1
  rw [haf] at P2
  obtain ⟨sec, hsec⟩ : ∃ sec, sec = 1 + p := ⟨_, rfl⟩
  have NW : Hid (∀ w, Calls Try.prog 8 #[.int .i64 (1 + (p : Int))] w (Disked w (newS sec))) := fun w => by
    have := snew_any w sec (by omega) (by omega)
    rw [show ((sec : Nat) : Int) = 1 + (p : Int) by omega] at this
    exact this
  have FA : Hid (∀ w S g, Dsk w S g (newS sec) → Calls Try.prog 13 #[.pointer (some ⟨g, 0, none⟩), .int .i64 (af : Int)] w (Done w S g (0, failS (newS sec) (af : Int)))) := fun w S g h => fail_is w S g _ (af : Int) h (by omega)
  have HS0 : Hid (secs (failS (newS sec) (af : Int)) = sec) := secs_new sec
  have HF0 : Hid ((failS (newS sec) (af : Int)).F = Fz 0 af) := by
    rw [Hid]; unfold failS Fz; simp
  have h80 := hs.1
  have HSM := Lib.hid hs
  clear hs hp haf
  go_enter Try.func7, Try.ntmps7
  go_wp2_with fail
  refine (lives4_any _).mono ?_
  rintro e w1 ⟨rfl, hb1⟩
  have HB1 := Lib.hid hb1
  clear hb1
  go_wp2_with fail
  refine (small_any _ _ len f (HV.out.below HB1.out)).mono ?_
  rintro e w2 ⟨b, rfl, hb, hb2⟩
  obtain rfl : b = true := hb.2 HSM.out
  have HB2 := Lib.hid (HB1.out.trans (hb2.mono HB1.out.size))
  clear hb2 hb
  go_wp2_with fail
  refine (P1.out _).mono ?_
  rintro e w3 ⟨rfl, rfl⟩
  go_wp2_with fail
  refine (P2.out _).mono ?_
  rintro e w3 ⟨rfl, rfl⟩
  go_wp2_with fail
  refine (NW.out _).mono ?_
  rintro e w3 ⟨g, rfl, hd3, hb3⟩
  obtain ⟨S3, HD3, HS3⟩ : ∃ S3, Hid (Dsk w3 S3 g (newS sec)) ∧ Hid (∀ k, S3 k → w.heap.size ≤ k) := ⟨_, hd3, fun k hk => Nat.le_trans HB2.out.size hk.1⟩
  have HB3 := Lib.hid (HB2.out.trans (hb3.mono HB2.out.size))
  clear hd3 hb3
  go_wp2_with fail
  refine (FA.out _ S3 g HD3.out).mono ?_
  intro e w4 hdone
  obtain ⟨rfl, S4, hd4, hS4, _, ht4⟩ := hdone.own HB3.out.size HS3.out
  have HD4 := Lib.hid hd4
  have HS4 := Lib.hid hS4
  have HB4 := Lib.hid (HB3.out.trans (ht4.below HB3.out.size HS3.out))
  clear hdone hd4 hS4 ht4
  have hse : (1 + (p : Int)) = (sec : Int) := by omega
  rw [hse]
  clear NW hse hsec
  go_wp2_with fail
  go_loopw [9, 10] (fun cnt i wr => FailRel w len sec af g cnt i wr) (fun _ i _ => len - (intOf i).toNat)
  case atStart => exact failRel_mk (k := 0) (n := 0) (by omega) (by omega) HD4.out HS0.out HF0.out HS4.out HB4.out
  case round =>
    obtain ⟨k, n, s, S, hk, hnk, rfl, rfl, hd, hsec, hF, hSw, hbel⟩ := hrel
    have HD := Lib.hid hd
    have HSEC := Lib.hid hsec
    have HF0 := Lib.hid hF
    have HF1 : Hid (tickF s.F = Fz (n + 1) af) := by rw [Hid, hF, tick_Fz]
    have HSW := Lib.hid hSw
    have HBW := Lib.hid hbel
    have HOK2 := Lib.hid hd.ok.tick
    have hblw : blows s.F = decide (n = af) := by rw [hF, blows_Fz]
    have KI : Hid (∀ w va vb, Rowz w va (inz (keysC s.C)) → Rowz w vb (inz (keysC s.C)) → Calls Try.prog 28 #[va, vb] w fun e w' => e = .returned (.bool true) ∧ Below w.heap.size w w') := fun w va vb h1 h2 => by
      have := kints_any w va vb _ _ h1 h2
      rw [decide_eq_true rfl] at this
      exact this
    have IM : Hid (∀ w S, Dsk w S g (tick s) → Calls Try.prog 31 #[.pointer (some ⟨g, 0, none⟩)] w (Made w s.B)) := fun w S h => image_is w S g (tick s) h
    clear HD3 HS3 HD4 HS4 HB4 HB3 HB2 HB1 FA P1 P2 HS0 hd hsec hSw hF
    by_cases hlt : k < len
    · have hkn : (k : Int) < (len : Int) := by omega
      have hok : OkAct w (f k) := by
        obtain ⟨_, _, _, _, _, h⟩ := HV.out.at hlt
        exact h
      obtain ⟨b, off, rfl, hb, hc, ha⟩ := (HV.out.below hbel).at hlt
      generalize f k = a at *
      have HC := Lib.hid hc
      have HOK := Lib.hid hok
      have HONE := Lib.hid (act_one ha)
      obtain ⟨q, hq, hq4⟩ : ∃ q : Nat, a.kind % 4 = (q : Int) ∧ q < 4 := ⟨(a.kind % 4).toNat, by omega, by omega⟩
      have PK := Lib.hid (fun w => pick_any a.kind 4 w (by omega) (by omega))
      rw [hq] at PK
      clear hc hb hbel ha hq hok
      by_cases hna : n = af
      · have HBL : Hid (blows s.F = true) := by rw [Hid, hblw]; simp [hna]
        have hnae : ((n : Int) == (af : Int)) = true := by rw [hna]; simp
        clear hna hblw
        go_wp2_with (first
          | (refine wpList_loadAt Try.underlying45 (cs := actL a) actSize rfl _ rfl b (off + k * 8) rfl HC.out ?_)
          | (refine wpList_storeAct _ rfl a HONE.out rfl _ _ rfl rfl rfl ?_; intro w2 hab2 hb2; have HAB := Lib.hid hab2; have HB2 := Lib.hid hb2; have HD2 := Lib.hid (HD.out.below hb2); clear hab2 hb2))
        refine (cached_is w2 S g s HD2.out).mono ?_
        rintro e w3 ⟨vw, rfl, hown3, hb3⟩
        have HV3 := Lib.hid (ints_rowz hown3)
        have HN3 : Hid (∀ k, vw.ownBlock = some k → ¬ S k) := fun k hk hs => by have := (World.ownsRow.lt hown3 k hk).1; have := HD2.out.lt k hs; omega
        have HB3 := Lib.hid (HB2.out.trans (hb3.mono HB2.out.size))
        have HD3 := Lib.hid (HD2.out.below hb3)
        have HAB3 := Lib.hid (HAB.out.below hb3)
        have HBW3 := Lib.hid (HBW.out.trans (HB3.out.mono HBW.out.size))
        have hnab : ¬ S wr.heap.size := fun hs => by have := HD.out.lt _ hs; omega
        have HNAB := Lib.hid hnab
        obtain ⟨Aw, nw, cw, rfl, Nw, _, _⟩ := HV3.out.form
        clear hown3 hb3 HD2 HB2 HAB hnab Nw
        go_wp2_with fail
        refine (image_is w3 S g s HD3.out).mono ?_
        rintro e w4 ⟨vi, rfl, hown4, hb4⟩
        have tx := stext_of hown4.byt
        have HV4 := Lib.hid (HV3.out.below hb4)
        have HD4 := Lib.hid (HD3.out.below hb4)
        have HAB4 := Lib.hid (HAB3.out.below hb4)
        have HBW4 := Lib.hid (HBW3.out.trans (hb4.mono HBW3.out.size))
        clear hown4 hb4 HV3 HD3 HAB3 HBW3
        obtain ⟨d0, d1, d2, d3, d4, d5, d6, d7⟩ := HAB4.out.cells
        go_wp2_with fail
        refine (PK.out _).mono ?_
        rintro e w5 ⟨rfl, rfl⟩
        by_cases h0 : q = 0
        · by_cases hin : 0 ≤ a.pl ∧ a.pl < (sec : Int)
          · subst h0
            have hq0 : True := trivial
            obtain ⟨hp0, hp1⟩ := hin
            have RD := Lib.hid (read_is w4 S g s a.pl HD4.out)
            rw [rd_A HSEC.out HBL.out hp0 hp1] at RD
            go_wp2_with fail
            refine RD.out.mono ?_
            rintro e w6 ⟨v6, rfl, hown6, hd6, ht6⟩
            obtain ⟨S6, HD6, HS6⟩ : ∃ S6, Hid (Dsk w6 S6 g _) ∧ Hid (∀ x, S6 x → w.heap.size ≤ x) := ⟨S, hd6, HSW.out⟩
            obtain ⟨A6, n6, c6, rfl, N6, _, _⟩ := hown6.byt.form
            clear hown6 hd6 N6
            have HV6 := Lib.hid (HV4.out.trn ht6 HN3.out)
            have HAB6 := Lib.hid (HAB4.out.trn ht6 HNAB.out)
            have HBW6 := Lib.hid (HBW4.out.trans (ht6.below HBW4.out.size HSW.out))
            clear ht6 d0 d1 d2 d3 d4 d5 d6 d7
            obtain ⟨d0, d1, d2, d3, d4, d5, d6, d7⟩ := HAB6.out.cells
            go_wp2_with fail
            refine (cached_is w6 S6 g (tick s) HD6.out).mono ?_
            rintro e w7 ⟨v7, rfl, hown7, hb7⟩
            have HV7 := Lib.hid (ints_rowz hown7)
            have HX7 := Lib.hid (HV6.out.below hb7)
            have HD7 := Lib.hid (HD6.out.below hb7)
            have HBW7 := Lib.hid (HBW6.out.trans (hb7.mono HBW6.out.size))
            clear hown7 hb7
            go_wp2_with fail
            refine (KI.out w7 _ _ HX7.out HV7.out).mono ?_
            rintro e w8 ⟨rfl, hb8⟩
            have HD8 := Lib.hid (HD7.out.below hb8)
            have HBW8 := Lib.hid (HBW7.out.trans (hb8.mono HBW7.out.size))
            clear hb8
            go_wp2_with fail
            refine (IM.out w8 S6 HD8.out).mono ?_
            rintro e w9 ⟨v9, rfl, hown9, hb9⟩
            have tx9 := stext_of hown9.byt
            have HD9 := Lib.hid (HD8.out.below hb9)
            have HBW9 := Lib.hid (HBW8.out.trans (hb9.mono HBW8.out.size))
            clear hown9 hb9
            go_wp2_with fail
            go_roundw
            case rel => exact by_num (failRel_mk (k := k + 1) (n := n + 1) (by omega) (by omega) HD9.out (HSEC.out ▸ rfl) (HF1.out) HS6.out HBW9.out)
            case measure => simp [intOf]; omega
          · subst h0
            by_cases hneg : ¬ 0 ≤ a.pl
            · have hp0 : ¬ 0 ≤ a.pl := hneg
              have RD := Lib.hid (read_is w4 S g s a.pl HD4.out)
              rw [rd_out HSEC.out hin] at RD
              clear hin
              go_wp2_with fail
              refine RD.out.mono ?_
              rintro e w6 ⟨v6, rfl, hown6, hd6, ht6⟩
              obtain ⟨S6, HD6, HS6⟩ : ∃ S6, Hid (Dsk w6 S6 g _) ∧ Hid (∀ x, S6 x → w.heap.size ≤ x) := ⟨S, hd6, HSW.out⟩
              obtain ⟨A6, n6, c6, rfl, N6, _, _⟩ := hown6.byt.form
              clear hown6 hd6 N6
              have HV6 := Lib.hid (HV4.out.trn ht6 HN3.out)
              have HAB6 := Lib.hid (HAB4.out.trn ht6 HNAB.out)
              have HBW6 := Lib.hid (HBW4.out.trans (ht6.below HBW4.out.size HSW.out))
              clear ht6 d0 d1 d2 d3 d4 d5 d6 d7
              obtain ⟨d0, d1, d2, d3, d4, d5, d6, d7⟩ := HAB6.out.cells
              go_wp2_with fail
              go_roundw
              case rel => exact by_num0 (failRel_mk (k := k + 1) (n := n) (by omega) (by omega) HD6.out HSEC.out HF0.out HS6.out HBW6.out)
              case measure => simp [intOf]; omega
            · have hp0 : 0 ≤ a.pl := by omega
              have hp1 : decide (a.pl < (sec : Int)) = false := by rw [decide_eq_false_iff_not]; exact fun h => hin ⟨hp0, h⟩
              have RD := Lib.hid (read_is w4 S g s a.pl HD4.out)
              rw [rd_out HSEC.out hin] at RD
              clear hin
              go_wp2_with fail
              refine RD.out.mono ?_
              rintro e w6 ⟨v6, rfl, hown6, hd6, ht6⟩
              obtain ⟨S6, HD6, HS6⟩ : ∃ S6, Hid (Dsk w6 S6 g _) ∧ Hid (∀ x, S6 x → w.heap.size ≤ x) := ⟨S, hd6, HSW.out⟩
              obtain ⟨A6, n6, c6, rfl, N6, _, _⟩ := hown6.byt.form
              clear hown6 hd6 N6
              have HV6 := Lib.hid (HV4.out.trn ht6 HN3.out)
              have HAB6 := Lib.hid (HAB4.out.trn ht6 HNAB.out)
              have HBW6 := Lib.hid (HBW4.out.trans (ht6.below HBW4.out.size HSW.out))
              clear ht6 d0 d1 d2 d3 d4 d5 d6 d7
              obtain ⟨d0, d1, d2, d3, d4, d5, d6, d7⟩ := HAB6.out.cells
              go_wp2_with fail
              go_roundw
              case rel => exact by_num0 (failRel_mk (k := k + 1) (n := n) (by omega) (by omega) HD6.out HSEC.out HF0.out HS6.out HBW6.out)
              case measure => simp [intOf]; omega
        · by_cases h3 : q = 3
          · subst h3
            clear h0
            have FL := Lib.hid (flush_is w4 S g s HD4.out)
            rw [fl_A HBL.out] at FL
            go_wp2_with fail
            refine FL.out.mono ?_
            intro e w6 hdone
            obtain ⟨rfl, S6, hd6, hS6, _, ht6⟩ := hdone.own (HBW4.out.size) HSW.out
            have HD6 := Lib.hid hd6
            have HS6 := Lib.hid hS6
            clear hdone hd6 hS6
            have HV6 := Lib.hid (HV4.out.trn ht6 HN3.out)
            have HAB6 := Lib.hid (HAB4.out.trn ht6 HNAB.out)
            have HBW6 := Lib.hid (HBW4.out.trans (ht6.below HBW4.out.size HSW.out))
            clear ht6 d0 d1 d2 d3 d4 d5 d6 d7
            obtain ⟨d0, d1, d2, d3, d4, d5, d6, d7⟩ := HAB6.out.cells
            go_wp2_with fail
            refine (cached_is w6 S6 g (tick s) HD6.out).mono ?_
            rintro e w7 ⟨v7, rfl, hown7, hb7⟩
            have HV7 := Lib.hid (ints_rowz hown7)
            have HX7 := Lib.hid (HV6.out.below hb7)
            have HD7 := Lib.hid (HD6.out.below hb7)
            have HBW7 := Lib.hid (HBW6.out.trans (hb7.mono HBW6.out.size))
            clear hown7 hb7
            go_wp2_with fail
            refine (KI.out w7 _ _ HX7.out HV7.out).mono ?_
            rintro e w8 ⟨rfl, hb8⟩
            have HD8 := Lib.hid (HD7.out.below hb8)
            have HBW8 := Lib.hid (HBW7.out.trans (hb8.mono HBW7.out.size))
            clear hb8
            go_wp2_with fail
            refine (IM.out w8 S6 HD8.out).mono ?_
            rintro e w9 ⟨v9, rfl, hown9, hb9⟩
            have tx9 := stext_of hown9.byt
            have HD9 := Lib.hid (HD8.out.below hb9)
            have HBW9 := Lib.hid (HBW8.out.trans (hb9.mono HBW8.out.size))
            clear hown9 hb9
            go_wp2_with fail
            go_roundw
            case rel => exact by_num (failRel_mk (k := k + 1) (n := n + 1) (by omega) (by omega) HD9.out (HSEC.out ▸ rfl) (HF1.out) HS6.out HBW9.out)
            case measure => simp [intOf]; omega
          · have hq0 : ((q : Int) == 0) = false := ne_int h0
            have hq3 : ((q : Int) == 3) = false := ne_int h3
            clear h0 h3
            by_cases hin : 0 ≤ a.pl ∧ a.pl < (sec : Int)
            · obtain ⟨hp0, hp1⟩ := hin
              have WRT := Lib.hid (fun w S v h1 h2 h3 => write_any w S g s a.pl v (actB a) h1 h2 h3)
              rw [wr_A HSEC.out HBL.out hp0 hp1] at WRT
              have HD4 := Lib.hid (show Dsk w4.drew S g s from Dsk_drew HD4.out)
              have HV4 := Lib.hid (show Rowz w4.drew _ _ from HV4.out)
              have HAB4 := Lib.hid (show ABlk w4.drew _ a from HAB4.out)
              have HBD := Lib.hid (show Below w.heap.size w w4.drew from HBW4.out.drew)
              clear d0 d1 d2 d3 d4 d5 d6 d7
              go_wp2_with fail
              refine wp_region_R (R := fun x y => y.heap[wr.heap.size]? = x.heap[wr.heap.size]?) (by kernel_rfl) (fun _ => rfl) (fun h k => k.trans h) (by kernel_rfl) (fun d v c a w h => by cases d <;> exact h)
                [(0, false), (1, false), (2, false), (3, false), (4, true), (5, true), (6, false)] rfl (by kernel_rfl) (by kernel_rfl) ?_
              simp only [sel, List.getElem?_toArray, List.getElem?_cons_succ, List.getElem?_cons_zero]
              generalize w4.drew = wd at *
              iterate 2 (refine sch_take ?_ rfl ?_ ?_; rotate_left; (focus (intro u hu; go_simp <;> rfl)); simp only [Act.put, List.setIfInBounds_toArray, List.set_cons_zero, List.set_cons_succ])
              (refine sch_take ?_ rfl ?_ ?_; rotate_left; (focus (intro u hu; have e1 : ABlk u _ a := hu.trans HAB4.out; obtain ⟨_, c1, _⟩ := e1.cells; clear e1 hu; go_simp <;> rfl)); simp only [Act.put, List.setIfInBounds_toArray, List.set_cons_zero, List.set_cons_succ])
              refine sch_take _ rfl (fun u hu => exec_loadAt Try.underlying45 (cs := actL a) actSize _ rfl wr.heap.size 0 rfl (ABlk.load (show ABlk u _ a from hu.trans HAB4.out))) ?_
              simp only [Act.put, List.setIfInBounds_toArray, List.set_cons_zero, List.set_cons_succ]
              refine sch_call rfl ?_
              intro K hK
              go_simp
              refine (lbytes_any _ a (HOK.out.below HBD.out)).mono ?_
              rintro e y1 ⟨vb, rfl, hownb, hbb⟩
              go_wp2_with fail
              refine hK _ _ (hbb.block _ HAB4.out.lt) ?_
              clear hK K
              have HVB := Lib.hid hownb.byt
              have HNB : Hid (∀ k, vb.ownBlock = some k → ¬ S k) := fun k hk hs => by have := (World.ownsRow.lt hownb k hk).1; have := HD4.out.lt k hs; omega
              have HD4 := Lib.hid (HD4.out.below hbb)
              have HV4 := Lib.hid (HV4.out.below hbb)
              have HAB4 := Lib.hid (HAB4.out.below hbb)
              have HBD := Lib.hid (HBD.out.trans (hbb.mono HBD.out.size))
              clear hownb hbb
              refine sch_call rfl ?_
              intro K hK
              go_simp
              refine (WRT.out _ S vb HD4.out HVB.out HNB.out).mono ?_
              intro e w6 hdone
              obtain ⟨rfl, S6, hd6, hS6, _, ht6⟩ := hdone.own HBD.out.size HSW.out
              have HD6 := Lib.hid hd6
              have HS6 := Lib.hid hS6
              have HV6 := Lib.hid (HV4.out.trn ht6 HN3.out)
              have HAB6 := Lib.hid (HAB4.out.trn ht6 HNAB.out)
              have HBW6 := Lib.hid (HBD.out.trans (ht6.below HBD.out.size HSW.out))
              have HQ6 := Lib.hid (ht6.block _ HAB4.out.lt HNAB.out)
              clear hdone hd6 hS6 ht6
              go_wp2_with fail
              refine hK _ _ HQ6.out ?_
              clear hK K
              (refine sch_take ?_ rfl ?_ ?_; rotate_left; (focus (intro u hu; go_simp <;> rfl)); simp only [Act.put, List.setIfInBounds_toArray, List.set_cons_zero, List.set_cons_succ])
              refine sch_nil ?_
              obtain ⟨d0, d1, d2, d3, d4, d5, d6, d7⟩ := HAB6.out.cells
              go_wp2_with fail
              refine (cached_is w6 S6 g (tick s) HD6.out).mono ?_
              rintro e w7 ⟨v7, rfl, hown7, hb7⟩
              have HV7 := Lib.hid (ints_rowz hown7)
              have HX7 := Lib.hid (HV6.out.below hb7)
              have HD7 := Lib.hid (HD6.out.below hb7)
              have HBW7 := Lib.hid (HBW6.out.trans (hb7.mono HBW6.out.size))
              clear hown7 hb7
              go_wp2_with fail
              refine (KI.out w7 _ _ HX7.out HV7.out).mono ?_
              rintro e w8 ⟨rfl, hb8⟩
              have HD8 := Lib.hid (HD7.out.below hb8)
              have HBW8 := Lib.hid (HBW7.out.trans (hb8.mono HBW7.out.size))
              clear hb8
              go_wp2_with fail
              refine (IM.out w8 S6 HD8.out).mono ?_
              rintro e w9 ⟨v9, rfl, hown9, hb9⟩
              have tx9 := stext_of hown9.byt
              have HD9 := Lib.hid (HD8.out.below hb9)
              have HBW9 := Lib.hid (HBW8.out.trans (hb9.mono HBW8.out.size))
              clear hown9 hb9
              go_wp2_with fail
              go_roundw
              case rel => exact by_num (failRel_mk (k := k + 1) (n := n + 1) (by omega) (by omega) HD9.out (HSEC.out ▸ rfl) (HF1.out) HS6.out HBW9.out)
              case measure => simp [intOf]; omega
            · by_cases hneg : ¬ 0 ≤ a.pl
              · have hp0 : ¬ 0 ≤ a.pl := hneg
                have WRT := Lib.hid (fun w S v h1 h2 h3 => write_any w S g s a.pl v (actB a) h1 h2 h3)
                rw [wr_out HSEC.out hin] at WRT
                clear hin
                have HD4 := Lib.hid (show Dsk w4.drew S g s from Dsk_drew HD4.out)
                have HV4 := Lib.hid (show Rowz w4.drew _ _ from HV4.out)
                have HAB4 := Lib.hid (show ABlk w4.drew _ a from HAB4.out)
                have HBD := Lib.hid (show Below w.heap.size w w4.drew from HBW4.out.drew)
                clear d0 d1 d2 d3 d4 d5 d6 d7
                go_wp2_with fail
                refine wp_region_R (R := fun x y => y.heap[wr.heap.size]? = x.heap[wr.heap.size]?) (by kernel_rfl) (fun _ => rfl) (fun h k => k.trans h) (by kernel_rfl) (fun d v c a w h => by cases d <;> exact h)
                  [(0, false), (1, false), (2, false), (3, false), (4, true), (5, true), (6, false)] rfl (by kernel_rfl) (by kernel_rfl) ?_
                simp only [sel, List.getElem?_toArray, List.getElem?_cons_succ, List.getElem?_cons_zero]
                generalize w4.drew = wd at *
                iterate 2 (refine sch_take ?_ rfl ?_ ?_; rotate_left; (focus (intro u hu; go_simp <;> rfl)); simp only [Act.put, List.setIfInBounds_toArray, List.set_cons_zero, List.set_cons_succ])
                (refine sch_take ?_ rfl ?_ ?_; rotate_left; (focus (intro u hu; have e1 : ABlk u _ a := hu.trans HAB4.out; obtain ⟨_, c1, _⟩ := e1.cells; clear e1 hu; go_simp <;> rfl)); simp only [Act.put, List.setIfInBounds_toArray, List.set_cons_zero, List.set_cons_succ])
                refine sch_take _ rfl (fun u hu => exec_loadAt Try.underlying45 (cs := actL a) actSize _ rfl wr.heap.size 0 rfl (ABlk.load (show ABlk u _ a from hu.trans HAB4.out))) ?_
                simp only [Act.put, List.setIfInBounds_toArray, List.set_cons_zero, List.set_cons_succ]
                refine sch_call rfl ?_
                intro K hK
                go_simp
                refine (lbytes_any _ a (HOK.out.below HBD.out)).mono ?_
                rintro e y1 ⟨vb, rfl, hownb, hbb⟩
                go_wp2_with fail
                refine hK _ _ (hbb.block _ HAB4.out.lt) ?_
                clear hK K
                have HVB := Lib.hid hownb.byt
                have HNB : Hid (∀ k, vb.ownBlock = some k → ¬ S k) := fun k hk hs => by have := (World.ownsRow.lt hownb k hk).1; have := HD4.out.lt k hs; omega
                have HD4 := Lib.hid (HD4.out.below hbb)
                have HV4 := Lib.hid (HV4.out.below hbb)
                have HAB4 := Lib.hid (HAB4.out.below hbb)
                have HBD := Lib.hid (HBD.out.trans (hbb.mono HBD.out.size))
                clear hownb hbb
                refine sch_call rfl ?_
                intro K hK
                go_simp
                refine (WRT.out _ S vb HD4.out HVB.out HNB.out).mono ?_
                intro e w6 hdone
                obtain ⟨rfl, S6, hd6, hS6, _, ht6⟩ := hdone.own HBD.out.size HSW.out
                have HD6 := Lib.hid hd6
                have HS6 := Lib.hid hS6
                have HV6 := Lib.hid (HV4.out.trn ht6 HN3.out)
                have HAB6 := Lib.hid (HAB4.out.trn ht6 HNAB.out)
                have HBW6 := Lib.hid (HBD.out.trans (ht6.below HBD.out.size HSW.out))
                have HQ6 := Lib.hid (ht6.block _ HAB4.out.lt HNAB.out)
                clear hdone hd6 hS6 ht6
                go_wp2_with fail
                refine hK _ _ HQ6.out ?_
                clear hK K
                (refine sch_take ?_ rfl ?_ ?_; rotate_left; (focus (intro u hu; go_simp <;> rfl)); simp only [Act.put, List.setIfInBounds_toArray, List.set_cons_zero, List.set_cons_succ])
                refine sch_nil ?_
                obtain ⟨d0, d1, d2, d3, d4, d5, d6, d7⟩ := HAB6.out.cells
                go_wp2_with fail
                go_roundw
                case rel => exact by_num0 (failRel_mk (k := k + 1) (n := n) (by omega) (by omega) HD6.out HSEC.out HF0.out HS6.out HBW6.out)
                case measure => simp [intOf]; omega
              · have hp0 : 0 ≤ a.pl := by omega
                have hp1 : decide (a.pl < (sec : Int)) = false := by rw [decide_eq_false_iff_not]; exact fun h => hin ⟨hp0, h⟩
                have WRT := Lib.hid (fun w S v h1 h2 h3 => write_any w S g s a.pl v (actB a) h1 h2 h3)
                rw [wr_out HSEC.out hin] at WRT
                clear hin
                have HD4 := Lib.hid (show Dsk w4.drew S g s from Dsk_drew HD4.out)
                have HV4 := Lib.hid (show Rowz w4.drew _ _ from HV4.out)
                have HAB4 := Lib.hid (show ABlk w4.drew _ a from HAB4.out)
                have HBD := Lib.hid (show Below w.heap.size w w4.drew from HBW4.out.drew)
                clear d0 d1 d2 d3 d4 d5 d6 d7
                go_wp2_with fail
                refine wp_region_R (R := fun x y => y.heap[wr.heap.size]? = x.heap[wr.heap.size]?) (by kernel_rfl) (fun _ => rfl) (fun h k => k.trans h) (by kernel_rfl) (fun d v c a w h => by cases d <;> exact h)
                  [(0, false), (1, false), (2, false), (3, false), (4, true), (5, true), (6, false)] rfl (by kernel_rfl) (by kernel_rfl) ?_
                simp only [sel, List.getElem?_toArray, List.getElem?_cons_succ, List.getElem?_cons_zero]
                generalize w4.drew = wd at *
                iterate 2 (refine sch_take ?_ rfl ?_ ?_; rotate_left; (focus (intro u hu; go_simp <;> rfl)); simp only [Act.put, List.setIfInBounds_toArray, List.set_cons_zero, List.set_cons_succ])
                (refine sch_take ?_ rfl ?_ ?_; rotate_left; (focus (intro u hu; have e1 : ABlk u _ a := hu.trans HAB4.out; obtain ⟨_, c1, _⟩ := e1.cells; clear e1 hu; go_simp <;> rfl)); simp only [Act.put, List.setIfInBounds_toArray, List.set_cons_zero, List.set_cons_succ])
                refine sch_take _ rfl (fun u hu => exec_loadAt Try.underlying45 (cs := actL a) actSize _ rfl wr.heap.size 0 rfl (ABlk.load (show ABlk u _ a from hu.trans HAB4.out))) ?_
                simp only [Act.put, List.setIfInBounds_toArray, List.set_cons_zero, List.set_cons_succ]
                refine sch_call rfl ?_
                intro K hK
                go_simp
                refine (lbytes_any _ a (HOK.out.below HBD.out)).mono ?_
                rintro e y1 ⟨vb, rfl, hownb, hbb⟩
                go_wp2_with fail
                refine hK _ _ (hbb.block _ HAB4.out.lt) ?_
                clear hK K
                have HVB := Lib.hid hownb.byt
                have HNB : Hid (∀ k, vb.ownBlock = some k → ¬ S k) := fun k hk hs => by have := (World.ownsRow.lt hownb k hk).1; have := HD4.out.lt k hs; omega
                have HD4 := Lib.hid (HD4.out.below hbb)
                have HV4 := Lib.hid (HV4.out.below hbb)
                have HAB4 := Lib.hid (HAB4.out.below hbb)
                have HBD := Lib.hid (HBD.out.trans (hbb.mono HBD.out.size))
                clear hownb hbb
                refine sch_call rfl ?_
                intro K hK
                go_simp
                refine (WRT.out _ S vb HD4.out HVB.out HNB.out).mono ?_
                intro e w6 hdone
                obtain ⟨rfl, S6, hd6, hS6, _, ht6⟩ := hdone.own HBD.out.size HSW.out
                have HD6 := Lib.hid hd6
                have HS6 := Lib.hid hS6
                have HV6 := Lib.hid (HV4.out.trn ht6 HN3.out)
                have HAB6 := Lib.hid (HAB4.out.trn ht6 HNAB.out)
                have HBW6 := Lib.hid (HBD.out.trans (ht6.below HBD.out.size HSW.out))
                have HQ6 := Lib.hid (ht6.block _ HAB4.out.lt HNAB.out)
                clear hdone hd6 hS6 ht6
                go_wp2_with fail
                refine hK _ _ HQ6.out ?_
                clear hK K
                (refine sch_take ?_ rfl ?_ ?_; rotate_left; (focus (intro u hu; go_simp <;> rfl)); simp only [Act.put, List.setIfInBounds_toArray, List.set_cons_zero, List.set_cons_succ])
                refine sch_nil ?_
                obtain ⟨d0, d1, d2, d3, d4, d5, d6, d7⟩ := HAB6.out.cells
                go_wp2_with fail
                go_roundw
                case rel => exact by_num0 (failRel_mk (k := k + 1) (n := n) (by omega) (by omega) HD6.out HSEC.out HF0.out HS6.out HBW6.out)
                case measure => simp [intOf]; omega
      · have HBL : Hid (blows s.F = false) := by rw [Hid, hblw]; simp [hna]
        have hnae : ((n : Int) == (af : Int)) = false := ne_int hna
        clear hna hblw
        go_wp2_with (first
          | (refine wpList_loadAt Try.underlying45 (cs := actL a) actSize rfl _ rfl b (off + k * 8) rfl HC.out ?_)
          | (refine wpList_storeAct _ rfl a HONE.out rfl _ _ rfl rfl rfl ?_; intro w2 hab2 hb2; have HAB := Lib.hid hab2; have HB2 := Lib.hid hb2; have HD2 := Lib.hid (HD.out.below hb2); clear hab2 hb2))
        refine (cached_is w2 S g s HD2.out).mono ?_
        rintro e w3 ⟨vw, rfl, hown3, hb3⟩
        have HV3 := Lib.hid (ints_rowz hown3)
        have HN3 : Hid (∀ k, vw.ownBlock = some k → ¬ S k) := fun k hk hs => by have := (World.ownsRow.lt hown3 k hk).1; have := HD2.out.lt k hs; omega
        have HB3 := Lib.hid (HB2.out.trans (hb3.mono HB2.out.size))
        have HD3 := Lib.hid (HD2.out.below hb3)
        have HAB3 := Lib.hid (HAB.out.below hb3)
        have HBW3 := Lib.hid (HBW.out.trans (HB3.out.mono HBW.out.size))
        have hnab : ¬ S wr.heap.size := fun hs => by have := HD.out.lt _ hs; omega
        have HNAB := Lib.hid hnab
        obtain ⟨Aw, nw, cw, rfl, Nw, _, _⟩ := HV3.out.form
        clear hown3 hb3 HD2 HB2 HAB hnab Nw
        have HV4 := HV3
        have HD4 := HD3
        have HAB4 := HAB3
        have HBW4 := HBW3
        obtain ⟨d0, d1, d2, d3, d4, d5, d6, d7⟩ := HAB4.out.cells
        go_wp2_with fail
        refine (PK.out _).mono ?_
        rintro e w5 ⟨rfl, rfl⟩
        by_cases h0 : q = 0
        · by_cases hin : 0 ≤ a.pl ∧ a.pl < (sec : Int)
          · subst h0
            have hq0 : True := trivial
            obtain ⟨hp0, hp1⟩ := hin
            have RD := Lib.hid (read_is w3 S g s a.pl HD4.out)
            rw [rd_B HSEC.out HBL.out hp0 hp1] at RD
            go_wp2_with fail
            refine RD.out.mono ?_
            rintro e w6 ⟨v6, rfl, hown6, hd6, ht6⟩
            obtain ⟨S6, HD6, HS6⟩ : ∃ S6, Hid (Dsk w6 S6 g _) ∧ Hid (∀ x, S6 x → w.heap.size ≤ x) := ⟨S, hd6, HSW.out⟩
            obtain ⟨A6, n6, c6, rfl, N6, _, _⟩ := hown6.byt.form
            clear hown6 hd6 N6
            have HV6 := Lib.hid (HV4.out.trn ht6 HN3.out)
            have HAB6 := Lib.hid (HAB4.out.trn ht6 HNAB.out)
            have HBW6 := Lib.hid (HBW4.out.trans (ht6.below HBW4.out.size HSW.out))
            clear ht6 d0 d1 d2 d3 d4 d5 d6 d7
            obtain ⟨d0, d1, d2, d3, d4, d5, d6, d7⟩ := HAB6.out.cells
            go_wp2_with fail
            go_roundw
            case rel => exact by_num (failRel_mk (k := k + 1) (n := n + 1) (by omega) (by omega) HD6.out (HSEC.out ▸ rfl) (HF1.out) HS6.out HBW6.out)
            case measure => simp [intOf]; omega
          · subst h0
            by_cases hneg : ¬ 0 ≤ a.pl
            · have hp0 : ¬ 0 ≤ a.pl := hneg
              have RD := Lib.hid (read_is w3 S g s a.pl HD4.out)
              rw [rd_out HSEC.out hin] at RD
              clear hin
              go_wp2_with fail
              refine RD.out.mono ?_
              rintro e w6 ⟨v6, rfl, hown6, hd6, ht6⟩
              obtain ⟨S6, HD6, HS6⟩ : ∃ S6, Hid (Dsk w6 S6 g _) ∧ Hid (∀ x, S6 x → w.heap.size ≤ x) := ⟨S, hd6, HSW.out⟩
              obtain ⟨A6, n6, c6, rfl, N6, _, _⟩ := hown6.byt.form
              clear hown6 hd6 N6
              have HV6 := Lib.hid (HV4.out.trn ht6 HN3.out)
              have HAB6 := Lib.hid (HAB4.out.trn ht6 HNAB.out)
              have HBW6 := Lib.hid (HBW4.out.trans (ht6.below HBW4.out.size HSW.out))
              clear ht6 d0 d1 d2 d3 d4 d5 d6 d7
              obtain ⟨d0, d1, d2, d3, d4, d5, d6, d7⟩ := HAB6.out.cells
              go_wp2_with fail
              go_roundw
              case rel => exact by_num0 (failRel_mk (k := k + 1) (n := n) (by omega) (by omega) HD6.out HSEC.out HF0.out HS6.out HBW6.out)
              case measure => simp [intOf]; omega
            · have hp0 : 0 ≤ a.pl := by omega
              have hp1 : decide (a.pl < (sec : Int)) = false := by rw [decide_eq_false_iff_not]; exact fun h => hin ⟨hp0, h⟩
              have RD := Lib.hid (read_is w3 S g s a.pl HD4.out)
              rw [rd_out HSEC.out hin] at RD
              clear hin
              go_wp2_with fail
              refine RD.out.mono ?_
              rintro e w6 ⟨v6, rfl, hown6, hd6, ht6⟩
              obtain ⟨S6, HD6, HS6⟩ : ∃ S6, Hid (Dsk w6 S6 g _) ∧ Hid (∀ x, S6 x → w.heap.size ≤ x) := ⟨S, hd6, HSW.out⟩
              obtain ⟨A6, n6, c6, rfl, N6, _, _⟩ := hown6.byt.form
              clear hown6 hd6 N6
              have HV6 := Lib.hid (HV4.out.trn ht6 HN3.out)
              have HAB6 := Lib.hid (HAB4.out.trn ht6 HNAB.out)
              have HBW6 := Lib.hid (HBW4.out.trans (ht6.below HBW4.out.size HSW.out))
              clear ht6 d0 d1 d2 d3 d4 d5 d6 d7
              obtain ⟨d0, d1, d2, d3, d4, d5, d6, d7⟩ := HAB6.out.cells
              go_wp2_with fail
              go_roundw
              case rel => exact by_num0 (failRel_mk (k := k + 1) (n := n) (by omega) (by omega) HD6.out HSEC.out HF0.out HS6.out HBW6.out)
              case measure => simp [intOf]; omega
        · by_cases h3 : q = 3
          · subst h3
            clear h0
            have FL := Lib.hid (flush_is w3 S g s HD4.out)
            rw [fl_B HBL.out] at FL
            go_wp2_with fail
            refine FL.out.mono ?_
            intro e w6 hdone
            obtain ⟨rfl, S6, hd6, hS6, _, ht6⟩ := hdone.own (HBW4.out.size) HSW.out
            have HD6 := Lib.hid hd6
            have HS6 := Lib.hid hS6
            clear hdone hd6 hS6
            have HV6 := Lib.hid (HV4.out.trn ht6 HN3.out)
            have HAB6 := Lib.hid (HAB4.out.trn ht6 HNAB.out)
            have HBW6 := Lib.hid (HBW4.out.trans (ht6.below HBW4.out.size HSW.out))
            clear ht6 d0 d1 d2 d3 d4 d5 d6 d7
            obtain ⟨d0, d1, d2, d3, d4, d5, d6, d7⟩ := HAB6.out.cells
            go_wp2_with fail
            go_roundw
            case rel => exact by_num (failRel_mk (k := k + 1) (n := n + 1) (by omega) (by omega) HD6.out ((secs_settle _ HOK2.out).trans HSEC.out) (HF1.out) HS6.out HBW6.out)
            case measure => simp [intOf]; omega
          · have hq0 : ((q : Int) == 0) = false := ne_int h0
            have hq3 : ((q : Int) == 3) = false := ne_int h3
            clear h0 h3
            by_cases hin : 0 ≤ a.pl ∧ a.pl < (sec : Int)
            · obtain ⟨hp0, hp1⟩ := hin
              have WRT := Lib.hid (fun w S v h1 h2 h3 => write_any w S g s a.pl v (actB a) h1 h2 h3)
              rw [wr_B HSEC.out HBL.out hp0 hp1] at WRT
              have HD4 := Lib.hid (show Dsk w3.drew S g s from Dsk_drew HD4.out)
              have HV4 := Lib.hid (show Rowz w3.drew _ _ from HV4.out)
              have HAB4 := Lib.hid (show ABlk w3.drew _ a from HAB4.out)
              have HBD := Lib.hid (show Below w.heap.size w w3.drew from HBW4.out.drew)
              clear d0 d1 d2 d3 d4 d5 d6 d7
              go_wp2_with fail
              refine wp_region_R (R := fun x y => y.heap[wr.heap.size]? = x.heap[wr.heap.size]?) (by kernel_rfl) (fun _ => rfl) (fun h k => k.trans h) (by kernel_rfl) (fun d v c a w h => by cases d <;> exact h)
                [(0, false), (1, false), (2, false), (3, false), (4, true), (5, true), (6, false)] rfl (by kernel_rfl) (by kernel_rfl) ?_
              simp only [sel, List.getElem?_toArray, List.getElem?_cons_succ, List.getElem?_cons_zero]
              generalize w3.drew = wd at *
              iterate 2 (refine sch_take ?_ rfl ?_ ?_; rotate_left; (focus (intro u hu; go_simp <;> rfl)); simp only [Act.put, List.setIfInBounds_toArray, List.set_cons_zero, List.set_cons_succ])
              (refine sch_take ?_ rfl ?_ ?_; rotate_left; (focus (intro u hu; have e1 : ABlk u _ a := hu.trans HAB4.out; obtain ⟨_, c1, _⟩ := e1.cells; clear e1 hu; go_simp <;> rfl)); simp only [Act.put, List.setIfInBounds_toArray, List.set_cons_zero, List.set_cons_succ])
              refine sch_take _ rfl (fun u hu => exec_loadAt Try.underlying45 (cs := actL a) actSize _ rfl wr.heap.size 0 rfl (ABlk.load (show ABlk u _ a from hu.trans HAB4.out))) ?_
              simp only [Act.put, List.setIfInBounds_toArray, List.set_cons_zero, List.set_cons_succ]
              refine sch_call rfl ?_
              intro K hK
              go_simp
              refine (lbytes_any _ a (HOK.out.below HBD.out)).mono ?_
              rintro e y1 ⟨vb, rfl, hownb, hbb⟩
              go_wp2_with fail
              refine hK _ _ (hbb.block _ HAB4.out.lt) ?_
              clear hK K
              have HVB := Lib.hid hownb.byt
              have HNB : Hid (∀ k, vb.ownBlock = some k → ¬ S k) := fun k hk hs => by have := (World.ownsRow.lt hownb k hk).1; have := HD4.out.lt k hs; omega
              have HD4 := Lib.hid (HD4.out.below hbb)
              have HV4 := Lib.hid (HV4.out.below hbb)
              have HAB4 := Lib.hid (HAB4.out.below hbb)
              have HBD := Lib.hid (HBD.out.trans (hbb.mono HBD.out.size))
              clear hownb hbb
              refine sch_call rfl ?_
              intro K hK
              go_simp
              refine (WRT.out _ S vb HD4.out HVB.out HNB.out).mono ?_
              intro e w6 hdone
              obtain ⟨rfl, S6, hd6, hS6, _, ht6⟩ := hdone.own HBD.out.size HSW.out
              have HD6 := Lib.hid hd6
              have HS6 := Lib.hid hS6
              have HV6 := Lib.hid (HV4.out.trn ht6 HN3.out)
              have HAB6 := Lib.hid (HAB4.out.trn ht6 HNAB.out)
              have HBW6 := Lib.hid (HBD.out.trans (ht6.below HBD.out.size HSW.out))
              have HQ6 := Lib.hid (ht6.block _ HAB4.out.lt HNAB.out)
              clear hdone hd6 hS6 ht6
              go_wp2_with fail
              refine hK _ _ HQ6.out ?_
              clear hK K
              (refine sch_take ?_ rfl ?_ ?_; rotate_left; (focus (intro u hu; go_simp <;> rfl)); simp only [Act.put, List.setIfInBounds_toArray, List.set_cons_zero, List.set_cons_succ])
              refine sch_nil ?_
              obtain ⟨d0, d1, d2, d3, d4, d5, d6, d7⟩ := HAB6.out.cells
              go_wp2_with fail
              go_roundw
              case rel => exact by_num (failRel_mk (k := k + 1) (n := n + 1) (by omega) (by omega) HD6.out (HSEC.out ▸ rfl) (HF1.out) HS6.out HBW6.out)
              case measure => simp [intOf]; omega
            · by_cases hneg : ¬ 0 ≤ a.pl
              · have hp0 : ¬ 0 ≤ a.pl := hneg
                have WRT := Lib.hid (fun w S v h1 h2 h3 => write_any w S g s a.pl v (actB a) h1 h2 h3)
                rw [wr_out HSEC.out hin] at WRT
                clear hin
                have HD4 := Lib.hid (show Dsk w3.drew S g s from Dsk_drew HD4.out)
                have HV4 := Lib.hid (show Rowz w3.drew _ _ from HV4.out)
                have HAB4 := Lib.hid (show ABlk w3.drew _ a from HAB4.out)
                have HBD := Lib.hid (show Below w.heap.size w w3.drew from HBW4.out.drew)
                clear d0 d1 d2 d3 d4 d5 d6 d7
                go_wp2_with fail
                refine wp_region_R (R := fun x y => y.heap[wr.heap.size]? = x.heap[wr.heap.size]?) (by kernel_rfl) (fun _ => rfl) (fun h k => k.trans h) (by kernel_rfl) (fun d v c a w h => by cases d <;> exact h)
                  [(0, false), (1, false), (2, false), (3, false), (4, true), (5, true), (6, false)] rfl (by kernel_rfl) (by kernel_rfl) ?_
                simp only [sel, List.getElem?_toArray, List.getElem?_cons_succ, List.getElem?_cons_zero]
                generalize w3.drew = wd at *
                iterate 2 (refine sch_take ?_ rfl ?_ ?_; rotate_left; (focus (intro u hu; go_simp <;> rfl)); simp only [Act.put, List.setIfInBounds_toArray, List.set_cons_zero, List.set_cons_succ])
                (refine sch_take ?_ rfl ?_ ?_; rotate_left; (focus (intro u hu; have e1 : ABlk u _ a := hu.trans HAB4.out; obtain ⟨_, c1, _⟩ := e1.cells; clear e1 hu; go_simp <;> rfl)); simp only [Act.put, List.setIfInBounds_toArray, List.set_cons_zero, List.set_cons_succ])
                refine sch_take _ rfl (fun u hu => exec_loadAt Try.underlying45 (cs := actL a) actSize _ rfl wr.heap.size 0 rfl (ABlk.load (show ABlk u _ a from hu.trans HAB4.out))) ?_
                simp only [Act.put, List.setIfInBounds_toArray, List.set_cons_zero, List.set_cons_succ]
                refine sch_call rfl ?_
                intro K hK
                go_simp
                refine (lbytes_any _ a (HOK.out.below HBD.out)).mono ?_
                rintro e y1 ⟨vb, rfl, hownb, hbb⟩
                go_wp2_with fail
                refine hK _ _ (hbb.block _ HAB4.out.lt) ?_
                clear hK K
                have HVB := Lib.hid hownb.byt
                have HNB : Hid (∀ k, vb.ownBlock = some k → ¬ S k) := fun k hk hs => by have := (World.ownsRow.lt hownb k hk).1; have := HD4.out.lt k hs; omega
                have HD4 := Lib.hid (HD4.out.below hbb)
                have HV4 := Lib.hid (HV4.out.below hbb)
                have HAB4 := Lib.hid (HAB4.out.below hbb)
                have HBD := Lib.hid (HBD.out.trans (hbb.mono HBD.out.size))
                clear hownb hbb
                refine sch_call rfl ?_
                intro K hK
                go_simp
                refine (WRT.out _ S vb HD4.out HVB.out HNB.out).mono ?_
                intro e w6 hdone
                obtain ⟨rfl, S6, hd6, hS6, _, ht6⟩ := hdone.own HBD.out.size HSW.out
                have HD6 := Lib.hid hd6
                have HS6 := Lib.hid hS6
                have HV6 := Lib.hid (HV4.out.trn ht6 HN3.out)
                have HAB6 := Lib.hid (HAB4.out.trn ht6 HNAB.out)
                have HBW6 := Lib.hid (HBD.out.trans (ht6.below HBD.out.size HSW.out))
                have HQ6 := Lib.hid (ht6.block _ HAB4.out.lt HNAB.out)
                clear hdone hd6 hS6 ht6
                go_wp2_with fail
                refine hK _ _ HQ6.out ?_
                clear hK K
                (refine sch_take ?_ rfl ?_ ?_; rotate_left; (focus (intro u hu; go_simp <;> rfl)); simp only [Act.put, List.setIfInBounds_toArray, List.set_cons_zero, List.set_cons_succ])
                refine sch_nil ?_
                obtain ⟨d0, d1, d2, d3, d4, d5, d6, d7⟩ := HAB6.out.cells
                go_wp2_with fail
                go_roundw
                case rel => exact by_num0 (failRel_mk (k := k + 1) (n := n) (by omega) (by omega) HD6.out HSEC.out HF0.out HS6.out HBW6.out)
                case measure => simp [intOf]; omega
              · have hp0 : 0 ≤ a.pl := by omega
                have hp1 : decide (a.pl < (sec : Int)) = false := by rw [decide_eq_false_iff_not]; exact fun h => hin ⟨hp0, h⟩
                have WRT := Lib.hid (fun w S v h1 h2 h3 => write_any w S g s a.pl v (actB a) h1 h2 h3)
                rw [wr_out HSEC.out hin] at WRT
                clear hin
                have HD4 := Lib.hid (show Dsk w3.drew S g s from Dsk_drew HD4.out)
                have HV4 := Lib.hid (show Rowz w3.drew _ _ from HV4.out)
                have HAB4 := Lib.hid (show ABlk w3.drew _ a from HAB4.out)
                have HBD := Lib.hid (show Below w.heap.size w w3.drew from HBW4.out.drew)
                clear d0 d1 d2 d3 d4 d5 d6 d7
                go_wp2_with fail
                refine wp_region_R (R := fun x y => y.heap[wr.heap.size]? = x.heap[wr.heap.size]?) (by kernel_rfl) (fun _ => rfl) (fun h k => k.trans h) (by kernel_rfl) (fun d v c a w h => by cases d <;> exact h)
                  [(0, false), (1, false), (2, false), (3, false), (4, true), (5, true), (6, false)] rfl (by kernel_rfl) (by kernel_rfl) ?_
                simp only [sel, List.getElem?_toArray, List.getElem?_cons_succ, List.getElem?_cons_zero]
                generalize w3.drew = wd at *
                iterate 2 (refine sch_take ?_ rfl ?_ ?_; rotate_left; (focus (intro u hu; go_simp <;> rfl)); simp only [Act.put, List.setIfInBounds_toArray, List.set_cons_zero, List.set_cons_succ])
                (refine sch_take ?_ rfl ?_ ?_; rotate_left; (focus (intro u hu; have e1 : ABlk u _ a := hu.trans HAB4.out; obtain ⟨_, c1, _⟩ := e1.cells; clear e1 hu; go_simp <;> rfl)); simp only [Act.put, List.setIfInBounds_toArray, List.set_cons_zero, List.set_cons_succ])
                refine sch_take _ rfl (fun u hu => exec_loadAt Try.underlying45 (cs := actL a) actSize _ rfl wr.heap.size 0 rfl (ABlk.load (show ABlk u _ a from hu.trans HAB4.out))) ?_
                simp only [Act.put, List.setIfInBounds_toArray, List.set_cons_zero, List.set_cons_succ]
                refine sch_call rfl ?_
                intro K hK
                go_simp
                refine (lbytes_any _ a (HOK.out.below HBD.out)).mono ?_
                rintro e y1 ⟨vb, rfl, hownb, hbb⟩
                go_wp2_with fail
                refine hK _ _ (hbb.block _ HAB4.out.lt) ?_
                clear hK K
                have HVB := Lib.hid hownb.byt
                have HNB : Hid (∀ k, vb.ownBlock = some k → ¬ S k) := fun k hk hs => by have := (World.ownsRow.lt hownb k hk).1; have := HD4.out.lt k hs; omega
                have HD4 := Lib.hid (HD4.out.below hbb)
                have HV4 := Lib.hid (HV4.out.below hbb)
                have HAB4 := Lib.hid (HAB4.out.below hbb)
                have HBD := Lib.hid (HBD.out.trans (hbb.mono HBD.out.size))
                clear hownb hbb
                refine sch_call rfl ?_
                intro K hK
                go_simp
                refine (WRT.out _ S vb HD4.out HVB.out HNB.out).mono ?_
                intro e w6 hdone
                obtain ⟨rfl, S6, hd6, hS6, _, ht6⟩ := hdone.own HBD.out.size HSW.out
                have HD6 := Lib.hid hd6
                have HS6 := Lib.hid hS6
                have HV6 := Lib.hid (HV4.out.trn ht6 HN3.out)
                have HAB6 := Lib.hid (HAB4.out.trn ht6 HNAB.out)
                have HBW6 := Lib.hid (HBD.out.trans (ht6.below HBD.out.size HSW.out))
                have HQ6 := Lib.hid (ht6.block _ HAB4.out.lt HNAB.out)
                clear hdone hd6 hS6 ht6
                go_wp2_with fail
                refine hK _ _ HQ6.out ?_
                clear hK K
                (refine sch_take ?_ rfl ?_ ?_; rotate_left; (focus (intro u hu; go_simp <;> rfl)); simp only [Act.put, List.setIfInBounds_toArray, List.set_cons_zero, List.set_cons_succ])
                refine sch_nil ?_
                obtain ⟨d0, d1, d2, d3, d4, d5, d6, d7⟩ := HAB6.out.cells
                go_wp2_with fail
                go_roundw
                case rel => exact by_num0 (failRel_mk (k := k + 1) (n := n) (by omega) (by omega) HD6.out HSEC.out HF0.out HS6.out HBW6.out)
                case measure => simp [intOf]; omega
    · have hkn : ¬ (k : Int) < (len : Int) := by omega
      clear hbel hblw
      go_wp2_with fail
      go_ret
      exact ⟨rfl, HBW.out⟩

theorem walk (w : World) (x y : Int) (v : Value) (len : Nat) (f : Nat → ActD) (_hx : -9223372036854775808 ≤ x ∧ x ≤ 9223372036854775807) (_hy : -9223372036854775808 ≤ y ∧ y ≤ 9223372036854775807) (hv : Acts w v len f) :
    Calls Try.prog 7 #[.int .i64 x, .int .i64 y, v] w fun e w' => e = .returned (.bool true) ∧ Below w.heap.size w w' := by
  by_cases h : smallA len f
  · exact walk_few w x y v len f hv h
  · exact walk_great w x y v len f hv h

set_option maxRecDepth 100000 in
theorem lifted (os : Os) (started : os.Started) (H : Type) (enc : TypeId × Value → H) :
    ReturnsInHanded {} Try.checked os 7 .any (Rows.sectorFailsSpec.pre6 enc Try.prog Try.f7 Rows.sectorFailsRow.domain false) (Rows.sectorFailsSpec.post enc Try.prog Try.f7 false true false false) := by
  refine returnsInHanded_of_change (C := Try.checked) ownKnobs started (by kernel_rfl) Try.func7
    (ChangeSpec.witness6 (enc := enc) (C := Try.checked) false ⟨#[], #[.int .i64 0, .int .i64 0, .slice none 0 0], []⟩ 8 (by kernel_rfl) (by kernel_rfl) (by kernel_rfl) (by kernel_rfl)) ?_
  intro W base args ds gs before hval0 hW hcnd _
  have hval : ∀ (j : Nat) t v, Try.f7.params[j]? = some t → args[j]? = some v → Value.okWide Try.prog W .any base t v := hval0
  have hW' := hW
  obtain ⟨p, q, hA0, hV, rfl, hfz, hnd⟩ := hW
  have hA : DataW.TrodAll enc Try.prog W 0 (fun _ => true) true Try.f7.params.toList args.toList ds p := hA0
  rw [Try.params7] at hA hval
  obtain ⟨v0, vs0, d0, ds0, p0, q0, hargs, rfl, rfl, h0, r0⟩ := trodAll_cons hA
  obtain ⟨v1, vs1, d1, ds1, p1, q1, rfl, rfl, rfl, h1, r1⟩ := trodAll_cons r0
  obtain ⟨v2, vs2, d2, ds2, p2, q2, rfl, rfl, rfl, h2, r2⟩ := trodAll_cons r1
  obtain ⟨rfl, rfl, rfl⟩ := trodAll_nil r2
  obtain rfl : args = #[v0, v1, v2] := by cases args; simp_all
  obtain ⟨rfl, rfl⟩ := trodVars_none hV
  obtain ⟨a0, rfl, rfl, rfl, w0⟩ := open_int Try.underlying3 (hval 0 3 v0 rfl rfl) h0
  have b0 := open_i64 w0
  obtain ⟨a1, rfl, rfl, rfl, w1⟩ := open_int Try.underlying3 (hval 1 3 v1 rfl rfl) h1
  have b1 := open_i64 w1
  have k2 := h2
  have lt2 : ∀ x ∈ p2, x.block < W.heap.size := by obtain ⟨m, hm⟩ := k2; exact DataW.trod_lt m _ _ _ hm
  obtain ⟨l2, f2, b2⟩ := open_acts (hval 2 36 v2 rfl rfl) h2
  clear hA0 hval0
  refine (walk W a0 a1 v2 l2 f2 b0 b1 b2).mono fun e W' ⟨he, bel⟩ => ?_
  subst he
  exact ⟨_, rfl, _, _, _, [], _, [], hW', trodAll_mk1 (shut_bool Try.underlying4 _), (trodAll_cons_mk (shut_int Try.underlying3 w0) (trodAll_cons_mk (shut_int Try.underlying3 w1) (trodAll_cons_mk (Below.trod laidOuts (by kernel_rfl) (of_decide_eq_true (by kernel_rfl)) k2 bel lt2) trodAll_mk0))), rfl, bel.frame _, fun h => by cases h⟩

theorem over : Rows.sectorFailsRow.holds Try.pinned (OpenSpec.ofChange Rows.sectorFailsSpec) :=
  OpenClaim.holds_of_wide 7 Try.f7 rfl rfl rfl rfl rfl rfl rfl ⟨rfl, rfl, rfl, rfl, rfl⟩ rfl rfl rfl rfl rfl (by kernel_rfl) Try.func7 (by kernel_rfl)
    (of_decide_eq_true (by kernel_rfl)) (by unfold Func.isWrapper; first | (rw [if_pos (by decide +kernel)]; kernel_rfl) | (rw [if_neg (by decide +kernel)]; exact ⟨rfl, rfl⟩))
    (fun os started H enc _ => lifted os started H enc)

theorem proved : Rows.SectorFailsSaid := over
#print axioms proved
end Go.Proofs.Ytlikbnhplfchiaa.sectorFails
