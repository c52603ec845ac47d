/-
  Ahead of the statement PoolDrops (not pinned): what is dropped, or reset, is forgotten: the disk's is read again; what was saved is not. Conditions: none.
-/
import Derived.Test.YtmfcckmcbmlhmaaPlN
import Derived.Test.YtmfcckmcbmlhmaaOpen
namespace Go.Proofs.Ytmfcckmcbmlhmaa.poolDrops
open Go.ChangeShapes Go.WideShapes Go.ChangeAt Go.RowKit Go.Maps
set_option maxRecDepth 100000
set_option linter.unusedVariables false

/-- What the walk asks of a told frame's cells. -/
theorem told_cells {w : World} {g : Nat} {l : List Fr} (h : ABlkF w g l) {i : Nat} (hi : i < l.length) : w.cell? ⟨g, i * 5, none⟩ = some (.bool (l.getD i zeroF).is) ∧ w.cell? ⟨g, i * 5 + 1, none⟩ = some (.int .i64 (l.getD i zeroF).page) ∧ w.cell? ⟨g, i * 5 + 2, none⟩ = some (.int .i64 ((l.getD i zeroF).pins : Int)) := by
  have hc : ∀ j, j < 5 → w.cell? ⟨g, i * 5 + j, none⟩ = (afL (l.getD i zeroF))[j]? := fun j hj => by
    rw [cell_of_row _ _ _ _ _ _ h, List.getElem?_toArray, fm_get (m := 5) (g := afL) (fun _ => rfl) l i hi j hj]
    simp [hi]
  exact ⟨hc 0 (by omega), hc 1 (by omega), hc 2 (by omega)⟩
def ToldRel (w : World) (g : Nat) (l : List Fr) (i : Value) (wr : World) : Prop := ∃ k : Nat, k ≤ 8 ∧ i = .int .i64 (k : Int) ∧ w = wr
def EvRel (w : World) (p d fb gf : Nat) (Q4 Q5 : PSt) (b : Bool) (s i : Value) (wr : World) : Prop := ∃ (k : Nat) (T : Nat → Prop), k ≤ 8 ∧ i = .int .i64 (k : Int) ∧ ((k = 0 ∧ s = .bool false ∧ PAt wr T p d fb Q4 ∧ ∀ j, T j → j ≠ gf) ∨ (0 < k ∧ s = .bool b ∧ PAt wr T p d fb Q5)) ∧ (∀ j, T j → w.heap.size ≤ j) ∧ Below w.heap.size w wr ∧ ABlkF wr gf Q4.fr
set_option maxRecDepth 100000 in
set_option maxHeartbeats 8000000 in
theorem walk_00 (w : World) (n : Int) (a b : UInt8) (how : Int) (X : Nat) (hX : X < 10) (hn : n % 10 = (X : Int)) (hh : how % 4 = 0) :
    Calls Try.prog 6 #[.int .i64 n, .int .u8 (a.toNat : Int), .int .u8 (b.toNat : Int), .int .i64 how, .bool false] w fun e w' => e = .returned (.bool true) ∧ Below w.heap.size w w' := by
  obtain ⟨Q0, Q1, Q2, Q3, Q4, Q5, Q6, er, c, D⟩ := drops_are X hX (rowP a) (rowP b) (rowP_len a) (rowP_len b) false 0 (by omega)
  have HD := Lib.hid D
  have HC : Hid (c = rowP a) := D.hc.trans (by simp)
  clear D
  have HRA : Hid (∀ w, Calls Try.prog 21 #[.int .u8 (a.toNat : Int)] w (Made w (rowP a))) := fun w => prow_any w a
  have HRB : Hid (∀ w, Calls Try.prog 21 #[.int .u8 (b.toNat : Int)] w (Made w (rowP b))) := fun w => prow_any w b
  have HPK : Hid (∀ w, Calls Try.prog 20 #[.int .i64 n, .int .i64 10] w fun e w' => e = .returned (.int .i64 (X : Int)) ∧ w = w') := fun w => hn ▸ pick_any n 10 w (by omega) (by omega)
  have HPH : Hid (∀ w, Calls Try.prog 20 #[.int .i64 how, .int .i64 4] w fun e w' => e = .returned (.int .i64 0) ∧ w = w') := fun w => hh ▸ pick_any how 4 w (by omega) (by omega)
  have HN : Hid (∀ w, Calls Try.prog 8 #[.int .i64 80] w (Disked w (newS 80))) := fun w => snew_any w 80 (by omega) (by omega)
  have HSEC : Hid (secs (newS 80) = 80) := secs_new 80
  have HE0 := Lib.hid HD.out.e0
  have HLC : Hid (c.length = 4096) := by rw [HC.out]; exact rowP_len _
  clear hn hh hX
  generalize rowP a = ra at *
  generalize rowP b = rb at *
  generalize newS 80 = s0 at *
  generalize (a.toNat : Int) = va at *
  generalize (b.toNat : Int) = vb at *
  go_enter Try.func6, Try.ntmps6
  go_wp2_with fail
  refine (lives7_any w).mono ?_
  rintro e wl ⟨rfl, hbl⟩
  have HBL := Lib.hid hbl
  clear hbl
  go_wp2_with fail
  refine (HN.out wl).mono ?_
  rintro e w1 ⟨d, rfl, hd1, hb1⟩
  have HSL : Hid (w.heap.size ≤ wl.heap.size) := HBL.out.size
  have HB0 : Hid (Below w.heap.size w w1) := HBL.out.trans (hb1.mono HBL.out.size)
  have HD1 := Lib.hid hd1
  clear hb1 hd1
  go_wp2_with fail
  refine (pnew_is w1 _ d s0 8 HD1.out (by rw [HSEC.out]; omega) (by omega) (by omega)).mono ?_
  rintro e w2 ⟨p, fb, rfl, hp2, hb2⟩
  rw [HE0.out] at hp2
  have hT2 : ∀ k, more (fun k => wl.heap.size ≤ k ∧ k < w1.heap.size) w1 w2 k → w.heap.size ≤ k := fun k hk => hk.elim (fun e => by have := HSL.out; omega) (fun e => by have := HB0.out.size; omega)
  have HB1 : Hid (Below w.heap.size w w2) := HB0.out.trans (hb2.mono HB0.out.size)
  generalize more (fun k => wl.heap.size ≤ k ∧ k < w1.heap.size) w1 w2 = T1 at *
  have HP1 := Lib.hid hp2
  have HT1 := Lib.hid hT2
  clear hp2 hT2 hb2 HD1 HB0 HBL HSL HE0
  go_wp2_with fail
  refine (HPK.out w2).mono ?_
  rintro e w2' ⟨rfl, rfl⟩
  go_wp2_with fail
  refine (HRA.out w2).mono ?_
  rintro e w3 ⟨v, rfl, hown, hbr⟩
  have HPx := Lib.hid (HP1.out.below hbr)
  have HBx : Hid (Below w.heap.size w w3) := HB1.out.trans (hbr.mono HB1.out.size)
  have HNx : Hid (∀ j, v.ownBlock = some j → ¬ T1 j ∧ j < w3.heap.size) := fun j hj => ⟨fun h => by have := (hown.lt j hj).1; have := HP1.out.lt j h; omega, (hown.lt j hj).2⟩
  have HOx := Lib.hid hown.byt
  clear hown hbr
  go_wp2_with fail
  refine (HD.out.e1 ▸ pput_is HPx.out (X : Int) v _ HOx.out HNx.out).mono ?_
  intro e w4 hpo
  obtain ⟨rfl, T2, hp2, hT2, _, hb2⟩ := hpo.own (B := w.heap.size) HBx.out.size HT1.out
  have HP2 := Lib.hid hp2
  have HT2 := Lib.hid hT2
  have HB2 : Hid (Below w.heap.size w w4) := HBx.out.trans hb2
  clear hpo hp2 hT2 hb2 HPx HBx HNx HOx
  go_wp2_with fail
  refine (HD.out.e2 ▸ pflush_is HP2.out).mono ?_
  intro e w5 hpo
  obtain ⟨rfl, T3, hp3, hT3, _, hb3⟩ := hpo.own (B := w.heap.size) HB2.out.size HT2.out
  have HP3 := Lib.hid hp3
  have HT3 := Lib.hid hT3
  have HB3 : Hid (Below w.heap.size w w5) := HB2.out.trans hb3
  clear hpo hp3 hT3 hb3
  go_wp2_with fail
  refine (HRB.out w5).mono ?_
  rintro e w6 ⟨v, rfl, hown, hbr⟩
  have HPx := Lib.hid (HP3.out.below hbr)
  have HBx : Hid (Below w.heap.size w w6) := HB3.out.trans (hbr.mono HB3.out.size)
  have HNx : Hid (∀ j, v.ownBlock = some j → ¬ T3 j ∧ j < w6.heap.size) := fun j hj => ⟨fun h => by have := (hown.lt j hj).1; have := HP3.out.lt j h; omega, (hown.lt j hj).2⟩
  have HOx := Lib.hid hown.byt
  clear hown hbr
  go_wp2_with fail
  refine (HD.out.e3 ▸ pput_is HPx.out (X : Int) v _ HOx.out HNx.out).mono ?_
  intro e w7 hpo
  obtain ⟨rfl, T4, hp4, hT4, _, hb4⟩ := hpo.own (B := w.heap.size) HBx.out.size HT3.out
  have HP4 := Lib.hid hp4
  have HT4 := Lib.hid hT4
  have HB4 : Hid (Below w.heap.size w w7) := HBx.out.trans hb4
  clear hpo hp4 hT4 hb4 HPx HBx HNx HOx
  go_wp2_with fail
  have h4 : Q4 = Q3 := HD.out.e4
  have HP5 : Hid (PAt w7 T4 p d fb Q4) := h4 ▸ HP4.out
  have HT5 := HT4
  have HB5 := HB4
  clear h4 HP4
  refine (HPH.out w7).mono ?_
  rintro e w9' ⟨rfl, rfl⟩
  go_wp2_with fail
  have h5 : Q5 = Q4 := HD.out.e5
  have HP6 : Hid (PAt w7 T4 p d fb Q5) := h5 ▸ HP5.out
  have HT6 := HT5
  have HB6 := HB5
  clear h5 HP5
  refine (HD.out.e6 ▸ pdrop_is HP6.out (X : Int)).mono ?_
  intro e y1 hpo
  obtain ⟨rfl, T7, hp7, hT7, _, hb7⟩ := hpo.own (B := w.heap.size) HB6.out.size HT6.out
  have HP7 := Lib.hid hp7
  have HT7 := Lib.hid hT7
  have HB7 : Hid (Below w.heap.size w y1) := HB6.out.trans hb7
  clear hpo hp7 hT7 hb7
  go_wp2_with fail
  refine (HD.out.e7.1 ▸ punpin_is HP7.out (X : Int) (by rw [HD.out.e7.2]; omega)).mono ?_
  intro e y2 hpo
  obtain ⟨rfl, T8, hp8, hT8, _, hb8⟩ := hpo.own (B := w.heap.size) HB7.out.size HT7.out
  have HP8 := Lib.hid hp8
  have HT8 := Lib.hid hT8
  have HB8 : Hid (Below w.heap.size w y2) := HB7.out.trans hb8
  clear hpo hp8 hT8 hb8
  go_wp2_with fail
  refine (pframes_is HP8.out).mono ?_
  rintro e y3 ⟨gf, rfl, hblk, hgf, hb9⟩
  have HF6 := Lib.hid HD.out.f6
  have hl6 := HF6.out.1
  have HA := Lib.hid hblk
  have HP9 := Lib.hid (HP8.out.below hb9)
  have HB9 : Hid (Below w.heap.size w y3) := HB8.out.trans (hb9.mono HB8.out.size)
  rw [hl6]
  clear hblk hgf hb9 hl6 HP8
  go_wp2_with fail
  go_loopw [19] (fun i wr => ToldRel y3 gf Q6.fr i wr) (fun i _ => 8 - (intOf i).toNat)
  case atStart => exact ⟨0, by omega, rfl, rfl⟩
  case round =>
    obtain ⟨k, hk, rfl, rfl⟩ := hrel
    by_cases hlt : k < 8
    · have hkn : (k : Int) < 8 := by omega
      have hkl : k < Q6.fr.length := by rw [HF6.out.1]; exact hlt
      obtain ⟨c0, _⟩ := told_cells HA.out hkl
      rw [HF6.out.2 k] at c0
      go_wp2_with fail
      go_roundw
      case rel => exact ⟨k + 1, by omega, by go_num, rfl⟩
      case measure => simp [intOf]; omega
    · obtain rfl : k = 8 := by omega
      go_wp2_with fail
      refine (pget_is HP9.out (X : Int) (by rw [HD.out.e8.1, HLC.out]; omega)).mono ?_
      intro e y4 hgo
      obtain ⟨v4, T4', rfl, hown4, _, _, _, hb4⟩ := hgo.own (B := w.heap.size) HB9.out.size HT8.out
      rw [HD.out.e8.1] at hown4
      rw [HD.out.e8.2]
      obtain ⟨A4, n4, c4, rfl, N4, hnc4, hcm4⟩ := hown4.byt.form
      have HX := Lib.hid (show Byt y4.drew (.slice A4 n4 c4) c from hown4.byt.drew)
      have HWD : Hid (Below w.heap.size w y4.drew) := (HB9.out.trans hb4).drew
      clear hgo hown4 hb4 N4
      have HRW : Hid (∀ w, Calls Try.prog 21 #[.int .u8 va] w (Made w c)) := fun w => HC.out ▸ HRA.out w
      go_wp2_with fail
      refine wp_region_R (R := fun x y => Below x.heap.size x y) (by kernel_rfl) (fun _ => Below.refl _ _) (fun h k => h.trans (k.mono h.size)) (by kernel_rfl) (fun d v c a w h => by cases d <;> exact h)
        [(0, false), (1, false), (2, false), (3, false), (4, false), (5, false), (6, true), (7, false), (8, false), (9, false), (10, false)] rfl (by kernel_rfl) (by kernel_rfl) ?_
      simp only [sel, List.getElem?_toArray, List.getElem?_cons_succ, List.getElem?_cons_zero]
      generalize y4.drew = wd at *
      iterate 4 (refine sch_take ?_ rfl ?_ ?_; rotate_left; (focus (intro u hu; go_simp <;> rfl)); simp only [Act.put, List.setIfInBounds_toArray, List.set_cons_zero, List.set_cons_succ])
      (refine sch_take ?_ rfl ?_ ?_; rotate_left; (focus (intro u hu; have tx := stext_of (HX.out.below hu); clear hu; go_simp <;> rfl)); simp only [Act.put, List.setIfInBounds_toArray, List.set_cons_zero, List.set_cons_succ])
      (refine sch_take ?_ rfl ?_ ?_; rotate_left; (focus (intro u hu; go_simp <;> rfl)); simp only [Act.put, List.setIfInBounds_toArray, List.set_cons_zero, List.set_cons_succ])
      refine sch_call rfl ?_
      intro K hK
      go_simp
      refine (HRW.out _).mono ?_
      rintro e y5 ⟨vr, rfl, hownr, hbr⟩
      go_wp2_with fail
      refine hK _ _ hbr ?_
      clear hK K
      have HRR := Lib.hid hownr.byt
      have HX := Lib.hid (HX.out.below hbr)
      have HWD := Lib.hid (HWD.out.trans (hbr.mono HWD.out.size))
      clear hownr hbr
      (refine sch_take ?_ rfl ?_ ?_; rotate_left; (focus (intro u hu; have tx := stext_of (HRR.out.below hu); clear hu; go_simp <;> rfl)); simp only [Act.put, List.setIfInBounds_toArray, List.set_cons_zero, List.set_cons_succ])
      iterate 3 (refine sch_take ?_ rfl ?_ ?_; rotate_left; (focus (intro u hu; go_simp <;> rfl)); simp only [Act.put, List.setIfInBounds_toArray, List.set_cons_zero, List.set_cons_succ])
      refine sch_nil ?_
      go_wp2_with fail
      go_ret
      exact ⟨rfl, HWD.out⟩
set_option maxRecDepth 100000 in
set_option maxHeartbeats 8000000 in
theorem walk_01 (w : World) (n : Int) (a b : UInt8) (how : Int) (X : Nat) (hX : X < 10) (hn : n % 10 = (X : Int)) (hh : how % 4 = 1) :
    Calls Try.prog 6 #[.int .i64 n, .int .u8 (a.toNat : Int), .int .u8 (b.toNat : Int), .int .i64 how, .bool false] w fun e w' => e = .returned (.bool true) ∧ Below w.heap.size w w' := by
  obtain ⟨Q0, Q1, Q2, Q3, Q4, Q5, Q6, er, c, D⟩ := drops_are X hX (rowP a) (rowP b) (rowP_len a) (rowP_len b) false 1 (by omega)
  have HD := Lib.hid D
  have HC : Hid (c = rowP b) := D.hc.trans (by simp)
  clear D
  have HRA : Hid (∀ w, Calls Try.prog 21 #[.int .u8 (a.toNat : Int)] w (Made w (rowP a))) := fun w => prow_any w a
  have HRB : Hid (∀ w, Calls Try.prog 21 #[.int .u8 (b.toNat : Int)] w (Made w (rowP b))) := fun w => prow_any w b
  have HPK : Hid (∀ w, Calls Try.prog 20 #[.int .i64 n, .int .i64 10] w fun e w' => e = .returned (.int .i64 (X : Int)) ∧ w = w') := fun w => hn ▸ pick_any n 10 w (by omega) (by omega)
  have HPH : Hid (∀ w, Calls Try.prog 20 #[.int .i64 how, .int .i64 4] w fun e w' => e = .returned (.int .i64 1) ∧ w = w') := fun w => hh ▸ pick_any how 4 w (by omega) (by omega)
  have HN : Hid (∀ w, Calls Try.prog 8 #[.int .i64 80] w (Disked w (newS 80))) := fun w => snew_any w 80 (by omega) (by omega)
  have HSEC : Hid (secs (newS 80) = 80) := secs_new 80
  have HE0 := Lib.hid HD.out.e0
  have HLC : Hid (c.length = 4096) := by rw [HC.out]; exact rowP_len _
  clear hn hh hX
  generalize rowP a = ra at *
  generalize rowP b = rb at *
  generalize newS 80 = s0 at *
  generalize (a.toNat : Int) = va at *
  generalize (b.toNat : Int) = vb at *
  go_enter Try.func6, Try.ntmps6
  go_wp2_with fail
  refine (lives7_any w).mono ?_
  rintro e wl ⟨rfl, hbl⟩
  have HBL := Lib.hid hbl
  clear hbl
  go_wp2_with fail
  refine (HN.out wl).mono ?_
  rintro e w1 ⟨d, rfl, hd1, hb1⟩
  have HSL : Hid (w.heap.size ≤ wl.heap.size) := HBL.out.size
  have HB0 : Hid (Below w.heap.size w w1) := HBL.out.trans (hb1.mono HBL.out.size)
  have HD1 := Lib.hid hd1
  clear hb1 hd1
  go_wp2_with fail
  refine (pnew_is w1 _ d s0 8 HD1.out (by rw [HSEC.out]; omega) (by omega) (by omega)).mono ?_
  rintro e w2 ⟨p, fb, rfl, hp2, hb2⟩
  rw [HE0.out] at hp2
  have hT2 : ∀ k, more (fun k => wl.heap.size ≤ k ∧ k < w1.heap.size) w1 w2 k → w.heap.size ≤ k := fun k hk => hk.elim (fun e => by have := HSL.out; omega) (fun e => by have := HB0.out.size; omega)
  have HB1 : Hid (Below w.heap.size w w2) := HB0.out.trans (hb2.mono HB0.out.size)
  generalize more (fun k => wl.heap.size ≤ k ∧ k < w1.heap.size) w1 w2 = T1 at *
  have HP1 := Lib.hid hp2
  have HT1 := Lib.hid hT2
  clear hp2 hT2 hb2 HD1 HB0 HBL HSL HE0
  go_wp2_with fail
  refine (HPK.out w2).mono ?_
  rintro e w2' ⟨rfl, rfl⟩
  go_wp2_with fail
  refine (HRA.out w2).mono ?_
  rintro e w3 ⟨v, rfl, hown, hbr⟩
  have HPx := Lib.hid (HP1.out.below hbr)
  have HBx : Hid (Below w.heap.size w w3) := HB1.out.trans (hbr.mono HB1.out.size)
  have HNx : Hid (∀ j, v.ownBlock = some j → ¬ T1 j ∧ j < w3.heap.size) := fun j hj => ⟨fun h => by have := (hown.lt j hj).1; have := HP1.out.lt j h; omega, (hown.lt j hj).2⟩
  have HOx := Lib.hid hown.byt
  clear hown hbr
  go_wp2_with fail
  refine (HD.out.e1 ▸ pput_is HPx.out (X : Int) v _ HOx.out HNx.out).mono ?_
  intro e w4 hpo
  obtain ⟨rfl, T2, hp2, hT2, _, hb2⟩ := hpo.own (B := w.heap.size) HBx.out.size HT1.out
  have HP2 := Lib.hid hp2
  have HT2 := Lib.hid hT2
  have HB2 : Hid (Below w.heap.size w w4) := HBx.out.trans hb2
  clear hpo hp2 hT2 hb2 HPx HBx HNx HOx
  go_wp2_with fail
  refine (HD.out.e2 ▸ pflush_is HP2.out).mono ?_
  intro e w5 hpo
  obtain ⟨rfl, T3, hp3, hT3, _, hb3⟩ := hpo.own (B := w.heap.size) HB2.out.size HT2.out
  have HP3 := Lib.hid hp3
  have HT3 := Lib.hid hT3
  have HB3 : Hid (Below w.heap.size w w5) := HB2.out.trans hb3
  clear hpo hp3 hT3 hb3
  go_wp2_with fail
  refine (HRB.out w5).mono ?_
  rintro e w6 ⟨v, rfl, hown, hbr⟩
  have HPx := Lib.hid (HP3.out.below hbr)
  have HBx : Hid (Below w.heap.size w w6) := HB3.out.trans (hbr.mono HB3.out.size)
  have HNx : Hid (∀ j, v.ownBlock = some j → ¬ T3 j ∧ j < w6.heap.size) := fun j hj => ⟨fun h => by have := (hown.lt j hj).1; have := HP3.out.lt j h; omega, (hown.lt j hj).2⟩
  have HOx := Lib.hid hown.byt
  clear hown hbr
  go_wp2_with fail
  refine (HD.out.e3 ▸ pput_is HPx.out (X : Int) v _ HOx.out HNx.out).mono ?_
  intro e w7 hpo
  obtain ⟨rfl, T4, hp4, hT4, _, hb4⟩ := hpo.own (B := w.heap.size) HBx.out.size HT3.out
  have HP4 := Lib.hid hp4
  have HT4 := Lib.hid hT4
  have HB4 : Hid (Below w.heap.size w w7) := HBx.out.trans hb4
  clear hpo hp4 hT4 hb4 HPx HBx HNx HOx
  go_wp2_with fail
  have h4 : Q4 = Q3 := HD.out.e4
  have HP5 : Hid (PAt w7 T4 p d fb Q4) := h4 ▸ HP4.out
  have HT5 := HT4
  have HB5 := HB4
  clear h4 HP4
  refine (HPH.out w7).mono ?_
  rintro e w9' ⟨rfl, rfl⟩
  go_wp2_with fail
  have h5 : cleanQ Q4 = (0, Q5) := HD.out.e5
  refine (h5 ▸ pclean_is HP5.out).mono ?_
  intro e w9 hpo
  obtain ⟨rfl, T6, hp6, hT6, _, hb6⟩ := hpo.own (B := w.heap.size) HB5.out.size HT5.out
  have HP6 := Lib.hid hp6
  have HT6 := Lib.hid hT6
  have HB6 : Hid (Below w.heap.size w w9) := HB5.out.trans hb6
  clear hpo hp6 hT6 hb6
  go_wp2_with fail
  refine (HD.out.e6 ▸ pdrop_is HP6.out (X : Int)).mono ?_
  intro e y1 hpo
  obtain ⟨rfl, T7, hp7, hT7, _, hb7⟩ := hpo.own (B := w.heap.size) HB6.out.size HT6.out
  have HP7 := Lib.hid hp7
  have HT7 := Lib.hid hT7
  have HB7 : Hid (Below w.heap.size w y1) := HB6.out.trans hb7
  clear hpo hp7 hT7 hb7
  go_wp2_with fail
  refine (HD.out.e7.1 ▸ punpin_is HP7.out (X : Int) (by rw [HD.out.e7.2]; omega)).mono ?_
  intro e y2 hpo
  obtain ⟨rfl, T8, hp8, hT8, _, hb8⟩ := hpo.own (B := w.heap.size) HB7.out.size HT7.out
  have HP8 := Lib.hid hp8
  have HT8 := Lib.hid hT8
  have HB8 : Hid (Below w.heap.size w y2) := HB7.out.trans hb8
  clear hpo hp8 hT8 hb8
  go_wp2_with fail
  refine (pframes_is HP8.out).mono ?_
  rintro e y3 ⟨gf, rfl, hblk, hgf, hb9⟩
  have HF6 := Lib.hid HD.out.f6
  have hl6 := HF6.out.1
  have HA := Lib.hid hblk
  have HP9 := Lib.hid (HP8.out.below hb9)
  have HB9 : Hid (Below w.heap.size w y3) := HB8.out.trans (hb9.mono HB8.out.size)
  rw [hl6]
  clear hblk hgf hb9 hl6 HP8
  go_wp2_with fail
  go_loopw [19] (fun i wr => ToldRel y3 gf Q6.fr i wr) (fun i _ => 8 - (intOf i).toNat)
  case atStart => exact ⟨0, by omega, rfl, rfl⟩
  case round =>
    obtain ⟨k, hk, rfl, rfl⟩ := hrel
    by_cases hlt : k < 8
    · have hkn : (k : Int) < 8 := by omega
      have hkl : k < Q6.fr.length := by rw [HF6.out.1]; exact hlt
      obtain ⟨c0, _⟩ := told_cells HA.out hkl
      rw [HF6.out.2 k] at c0
      go_wp2_with fail
      go_roundw
      case rel => exact ⟨k + 1, by omega, by go_num, rfl⟩
      case measure => simp [intOf]; omega
    · obtain rfl : k = 8 := by omega
      go_wp2_with fail
      refine (pget_is HP9.out (X : Int) (by rw [HD.out.e8.1, HLC.out]; omega)).mono ?_
      intro e y4 hgo
      obtain ⟨v4, T4', rfl, hown4, _, _, _, hb4⟩ := hgo.own (B := w.heap.size) HB9.out.size HT8.out
      rw [HD.out.e8.1] at hown4
      rw [HD.out.e8.2]
      obtain ⟨A4, n4, c4, rfl, N4, hnc4, hcm4⟩ := hown4.byt.form
      have HX := Lib.hid (show Byt y4.drew (.slice A4 n4 c4) c from hown4.byt.drew)
      have HWD : Hid (Below w.heap.size w y4.drew) := (HB9.out.trans hb4).drew
      clear hgo hown4 hb4 N4
      have HRW : Hid (∀ w, Calls Try.prog 21 #[.int .u8 vb] w (Made w c)) := fun w => HC.out ▸ HRB.out w
      go_wp2_with fail
      refine wp_region_R (R := fun x y => Below x.heap.size x y) (by kernel_rfl) (fun _ => Below.refl _ _) (fun h k => h.trans (k.mono h.size)) (by kernel_rfl) (fun d v c a w h => by cases d <;> exact h)
        [(0, false), (1, false), (2, false), (3, false), (4, false), (5, false), (6, true), (7, false), (8, false), (9, false), (10, false)] rfl (by kernel_rfl) (by kernel_rfl) ?_
      simp only [sel, List.getElem?_toArray, List.getElem?_cons_succ, List.getElem?_cons_zero]
      generalize y4.drew = wd at *
      iterate 4 (refine sch_take ?_ rfl ?_ ?_; rotate_left; (focus (intro u hu; go_simp <;> rfl)); simp only [Act.put, List.setIfInBounds_toArray, List.set_cons_zero, List.set_cons_succ])
      (refine sch_take ?_ rfl ?_ ?_; rotate_left; (focus (intro u hu; have tx := stext_of (HX.out.below hu); clear hu; go_simp <;> rfl)); simp only [Act.put, List.setIfInBounds_toArray, List.set_cons_zero, List.set_cons_succ])
      (refine sch_take ?_ rfl ?_ ?_; rotate_left; (focus (intro u hu; go_simp <;> rfl)); simp only [Act.put, List.setIfInBounds_toArray, List.set_cons_zero, List.set_cons_succ])
      refine sch_call rfl ?_
      intro K hK
      go_simp
      refine (HRW.out _).mono ?_
      rintro e y5 ⟨vr, rfl, hownr, hbr⟩
      go_wp2_with fail
      refine hK _ _ hbr ?_
      clear hK K
      have HRR := Lib.hid hownr.byt
      have HX := Lib.hid (HX.out.below hbr)
      have HWD := Lib.hid (HWD.out.trans (hbr.mono HWD.out.size))
      clear hownr hbr
      (refine sch_take ?_ rfl ?_ ?_; rotate_left; (focus (intro u hu; have tx := stext_of (HRR.out.below hu); clear hu; go_simp <;> rfl)); simp only [Act.put, List.setIfInBounds_toArray, List.set_cons_zero, List.set_cons_succ])
      iterate 3 (refine sch_take ?_ rfl ?_ ?_; rotate_left; (focus (intro u hu; go_simp <;> rfl)); simp only [Act.put, List.setIfInBounds_toArray, List.set_cons_zero, List.set_cons_succ])
      refine sch_nil ?_
      go_wp2_with fail
      go_ret
      exact ⟨rfl, HWD.out⟩
set_option maxRecDepth 100000 in
set_option maxHeartbeats 8000000 in
theorem walk_02 (w : World) (n : Int) (a b : UInt8) (how : Int) (X : Nat) (hX : X < 10) (hn : n % 10 = (X : Int)) (hh : how % 4 = 2) :
    Calls Try.prog 6 #[.int .i64 n, .int .u8 (a.toNat : Int), .int .u8 (b.toNat : Int), .int .i64 how, .bool false] w fun e w' => e = .returned (.bool true) ∧ Below w.heap.size w w' := by
  obtain ⟨Q0, Q1, Q2, Q3, Q4, Q5, Q6, er, c, D⟩ := drops_are X hX (rowP a) (rowP b) (rowP_len a) (rowP_len b) false 2 (by omega)
  have HD := Lib.hid D
  have HC : Hid (c = rowP b) := D.hc.trans (by simp)
  clear D
  have HRA : Hid (∀ w, Calls Try.prog 21 #[.int .u8 (a.toNat : Int)] w (Made w (rowP a))) := fun w => prow_any w a
  have HRB : Hid (∀ w, Calls Try.prog 21 #[.int .u8 (b.toNat : Int)] w (Made w (rowP b))) := fun w => prow_any w b
  have HPK : Hid (∀ w, Calls Try.prog 20 #[.int .i64 n, .int .i64 10] w fun e w' => e = .returned (.int .i64 (X : Int)) ∧ w = w') := fun w => hn ▸ pick_any n 10 w (by omega) (by omega)
  have HPH : Hid (∀ w, Calls Try.prog 20 #[.int .i64 how, .int .i64 4] w fun e w' => e = .returned (.int .i64 2) ∧ w = w') := fun w => hh ▸ pick_any how 4 w (by omega) (by omega)
  have HN : Hid (∀ w, Calls Try.prog 8 #[.int .i64 80] w (Disked w (newS 80))) := fun w => snew_any w 80 (by omega) (by omega)
  have HSEC : Hid (secs (newS 80) = 80) := secs_new 80
  have HE0 := Lib.hid HD.out.e0
  have HLC : Hid (c.length = 4096) := by rw [HC.out]; exact rowP_len _
  clear hn hh hX
  generalize rowP a = ra at *
  generalize rowP b = rb at *
  generalize newS 80 = s0 at *
  generalize (a.toNat : Int) = va at *
  generalize (b.toNat : Int) = vb at *
  go_enter Try.func6, Try.ntmps6
  go_wp2_with fail
  refine (lives7_any w).mono ?_
  rintro e wl ⟨rfl, hbl⟩
  have HBL := Lib.hid hbl
  clear hbl
  go_wp2_with fail
  refine (HN.out wl).mono ?_
  rintro e w1 ⟨d, rfl, hd1, hb1⟩
  have HSL : Hid (w.heap.size ≤ wl.heap.size) := HBL.out.size
  have HB0 : Hid (Below w.heap.size w w1) := HBL.out.trans (hb1.mono HBL.out.size)
  have HD1 := Lib.hid hd1
  clear hb1 hd1
  go_wp2_with fail
  refine (pnew_is w1 _ d s0 8 HD1.out (by rw [HSEC.out]; omega) (by omega) (by omega)).mono ?_
  rintro e w2 ⟨p, fb, rfl, hp2, hb2⟩
  rw [HE0.out] at hp2
  have hT2 : ∀ k, more (fun k => wl.heap.size ≤ k ∧ k < w1.heap.size) w1 w2 k → w.heap.size ≤ k := fun k hk => hk.elim (fun e => by have := HSL.out; omega) (fun e => by have := HB0.out.size; omega)
  have HB1 : Hid (Below w.heap.size w w2) := HB0.out.trans (hb2.mono HB0.out.size)
  generalize more (fun k => wl.heap.size ≤ k ∧ k < w1.heap.size) w1 w2 = T1 at *
  have HP1 := Lib.hid hp2
  have HT1 := Lib.hid hT2
  clear hp2 hT2 hb2 HD1 HB0 HBL HSL HE0
  go_wp2_with fail
  refine (HPK.out w2).mono ?_
  rintro e w2' ⟨rfl, rfl⟩
  go_wp2_with fail
  refine (HRA.out w2).mono ?_
  rintro e w3 ⟨v, rfl, hown, hbr⟩
  have HPx := Lib.hid (HP1.out.below hbr)
  have HBx : Hid (Below w.heap.size w w3) := HB1.out.trans (hbr.mono HB1.out.size)
  have HNx : Hid (∀ j, v.ownBlock = some j → ¬ T1 j ∧ j < w3.heap.size) := fun j hj => ⟨fun h => by have := (hown.lt j hj).1; have := HP1.out.lt j h; omega, (hown.lt j hj).2⟩
  have HOx := Lib.hid hown.byt
  clear hown hbr
  go_wp2_with fail
  refine (HD.out.e1 ▸ pput_is HPx.out (X : Int) v _ HOx.out HNx.out).mono ?_
  intro e w4 hpo
  obtain ⟨rfl, T2, hp2, hT2, _, hb2⟩ := hpo.own (B := w.heap.size) HBx.out.size HT1.out
  have HP2 := Lib.hid hp2
  have HT2 := Lib.hid hT2
  have HB2 : Hid (Below w.heap.size w w4) := HBx.out.trans hb2
  clear hpo hp2 hT2 hb2 HPx HBx HNx HOx
  go_wp2_with fail
  refine (HD.out.e2 ▸ pflush_is HP2.out).mono ?_
  intro e w5 hpo
  obtain ⟨rfl, T3, hp3, hT3, _, hb3⟩ := hpo.own (B := w.heap.size) HB2.out.size HT2.out
  have HP3 := Lib.hid hp3
  have HT3 := Lib.hid hT3
  have HB3 : Hid (Below w.heap.size w w5) := HB2.out.trans hb3
  clear hpo hp3 hT3 hb3
  go_wp2_with fail
  refine (HRB.out w5).mono ?_
  rintro e w6 ⟨v, rfl, hown, hbr⟩
  have HPx := Lib.hid (HP3.out.below hbr)
  have HBx : Hid (Below w.heap.size w w6) := HB3.out.trans (hbr.mono HB3.out.size)
  have HNx : Hid (∀ j, v.ownBlock = some j → ¬ T3 j ∧ j < w6.heap.size) := fun j hj => ⟨fun h => by have := (hown.lt j hj).1; have := HP3.out.lt j h; omega, (hown.lt j hj).2⟩
  have HOx := Lib.hid hown.byt
  clear hown hbr
  go_wp2_with fail
  refine (HD.out.e3 ▸ pput_is HPx.out (X : Int) v _ HOx.out HNx.out).mono ?_
  intro e w7 hpo
  obtain ⟨rfl, T4, hp4, hT4, _, hb4⟩ := hpo.own (B := w.heap.size) HBx.out.size HT3.out
  have HP4 := Lib.hid hp4
  have HT4 := Lib.hid hT4
  have HB4 : Hid (Below w.heap.size w w7) := HBx.out.trans hb4
  clear hpo hp4 hT4 hb4 HPx HBx HNx HOx
  go_wp2_with fail
  have h4 : Q4 = Q3 := HD.out.e4
  have HP5 : Hid (PAt w7 T4 p d fb Q4) := h4 ▸ HP4.out
  have HT5 := HT4
  have HB5 := HB4
  clear h4 HP4
  refine (HPH.out w7).mono ?_
  rintro e w9' ⟨rfl, rfl⟩
  go_wp2_with fail
  have h5 : evictQ Q4 0 = (er, Q5) ∧ er = (if false then 6 else 0) := HD.out.e5
  have h5e : er = 0 := h5.2
  obtain ⟨h5, h5z⟩ := h5
  clear h5z
  subst h5e
  have H5 := Lib.hid h5
  clear h5
  refine (pframes_is HP5.out).mono ?_
  rintro e w9 ⟨gf, rfl, hblk, hgf, hb9⟩
  have HF4 := Lib.hid HD.out.f4
  have hl4 := HF4.out.1
  have HA := Lib.hid hblk
  have HP6 := Lib.hid (HP5.out.below hb9)
  have HTG : Hid (∀ j, T4 j → j ≠ gf) := fun j hj => by have := HP5.out.lt j hj; omega
  have HB6 : Hid (Below w.heap.size w w9) := HB5.out.trans (hb9.mono HB5.out.size)
  rw [hl4]
  have HGS : Hid (w.heap.size ≤ gf) := Nat.le_trans HB5.out.size hgf
  clear hblk hgf hb9 hl4 HP5
  go_wp2_with fail
  go_loopw [14, 16] (fun s i wr => EvRel w p d fb gf Q4 Q5 true s i wr) (fun _ i _ => 8 - (intOf i).toNat)
  case atStart => exact ⟨0, T4, by omega, rfl, .inl ⟨rfl, rfl, HP6.out, HTG.out⟩, HT5.out, HB6.out, HA.out⟩
  case round =>
    obtain ⟨k, T9, hk, rfl, hst, hT9, hb9, hA9⟩ := hrel
    have HT9 := Lib.hid hT9
    have HB9 := Lib.hid hb9
    have HA9 := Lib.hid hA9
    clear hT9 hb9 hA9 HP6 HTG HB6 HA
    by_cases hlt : k < 8
    · have hkn : (k : Int) < 8 := by omega
      have hkl : k < Q4.fr.length := by rw [HF4.out.1]; exact hlt
      obtain ⟨c0, c1, _⟩ := told_cells HA9.out hkl
      rcases hst with ⟨h0, rfl, hp9, hg9⟩ | ⟨h0, rfl, hp9⟩
      · subst h0
        rw [HF4.out.2.1] at c0
        rw [HF4.out.2.2.1] at c1
        rw [Nat.zero_mul] at c0 c1
        rw [Nat.zero_add] at c1
        have HP9 := Lib.hid hp9
        have HG9 := Lib.hid hg9
        clear hp9 hg9
        go_wp2_with fail
        refine (H5.out ▸ pevict_is HP9.out 0).mono ?_
        intro e w10 hpo
        have hA10 : ABlkF w10 gf Q4.fr := (hpo.2.2.block gf (Array.getElem?_eq_some_iff.1 HA9.out).1 (fun h => HG9.out gf h rfl)).trans HA9.out
        obtain ⟨rfl, T10, hp10, hT10, _, hb10⟩ := hpo.own (B := w.heap.size) HB9.out.size HT9.out
        have HP10 := Lib.hid hp10
        have HT10 := Lib.hid hT10
        have HA10 := Lib.hid hA10
        have HB10 : Hid (Below w.heap.size w w10) := HB9.out.trans hb10
        clear hpo hp10 hT10 hb10 hA10
        go_wp2_with fail
        go_roundw
        case rel => exact ⟨1, T10, by omega, by go_num, .inr ⟨by omega, rfl, HP10.out⟩, HT10.out, HB10.out, HA10.out⟩
        case measure => simp [intOf]
      · rw [HF4.out.2.2.2 k h0] at c0
        have HP9 := Lib.hid hp9
        clear hp9
        go_wp2_with fail
        go_roundw
        case rel => exact ⟨k + 1, T9, by omega, by go_num, .inr ⟨by omega, rfl, HP9.out⟩, HT9.out, HB9.out, HA9.out⟩
        case measure => simp [intOf]; omega
    · obtain rfl : k = 8 := by omega
      have hst' := hst.resolve_left (fun h => by omega)
      obtain ⟨_, rfl, hp9⟩ := hst'
      have HP6 := Lib.hid hp9
      have HT6 := HT9
      have HB6 := HB9
      clear hp9 hst
      go_wp2_with fail
      refine (HD.out.e6 ▸ pdrop_is HP6.out (X : Int)).mono ?_
      intro e y1 hpo
      obtain ⟨rfl, T7, hp7, hT7, _, hb7⟩ := hpo.own (B := w.heap.size) HB6.out.size HT6.out
      have HP7 := Lib.hid hp7
      have HT7 := Lib.hid hT7
      have HB7 : Hid (Below w.heap.size w y1) := HB6.out.trans hb7
      clear hpo hp7 hT7 hb7
      go_wp2_with fail
      refine (HD.out.e7.1 ▸ punpin_is HP7.out (X : Int) (by rw [HD.out.e7.2]; omega)).mono ?_
      intro e y2 hpo
      obtain ⟨rfl, T8, hp8, hT8, _, hb8⟩ := hpo.own (B := w.heap.size) HB7.out.size HT7.out
      have HP8 := Lib.hid hp8
      have HT8 := Lib.hid hT8
      have HB8 : Hid (Below w.heap.size w y2) := HB7.out.trans hb8
      clear hpo hp8 hT8 hb8
      go_wp2_with fail
      refine (pframes_is HP8.out).mono ?_
      rintro e y3 ⟨gf, rfl, hblk, hgf, hb9⟩
      have HF6 := Lib.hid HD.out.f6
      have hl6 := HF6.out.1
      have HA := Lib.hid hblk
      have HP9 := Lib.hid (HP8.out.below hb9)
      have HB9 : Hid (Below w.heap.size w y3) := HB8.out.trans (hb9.mono HB8.out.size)
      rw [hl6]
      clear hblk hgf hb9 hl6 HP8
      go_wp2_with fail
      go_loopw [19] (fun i wr => ToldRel y3 gf Q6.fr i wr) (fun i _ => 8 - (intOf i).toNat)
      case atStart => exact ⟨0, by omega, rfl, rfl⟩
      case round =>
        obtain ⟨k, hk, rfl, rfl⟩ := hrel
        by_cases hlt : k < 8
        · have hkn : (k : Int) < 8 := by omega
          have hkl : k < Q6.fr.length := by rw [HF6.out.1]; exact hlt
          obtain ⟨c0, _⟩ := told_cells HA.out hkl
          rw [HF6.out.2 k] at c0
          go_wp2_with fail
          go_roundw
          case rel => exact ⟨k + 1, by omega, by go_num, rfl⟩
          case measure => simp [intOf]; omega
        · obtain rfl : k = 8 := by omega
          go_wp2_with fail
          refine (pget_is HP9.out (X : Int) (by rw [HD.out.e8.1, HLC.out]; omega)).mono ?_
          intro e y4 hgo
          obtain ⟨v4, T4', rfl, hown4, _, _, _, hb4⟩ := hgo.own (B := w.heap.size) HB9.out.size HT8.out
          rw [HD.out.e8.1] at hown4
          rw [HD.out.e8.2]
          obtain ⟨A4, n4, c4, rfl, N4, hnc4, hcm4⟩ := hown4.byt.form
          have HX := Lib.hid (show Byt y4.drew (.slice A4 n4 c4) c from hown4.byt.drew)
          have HWD : Hid (Below w.heap.size w y4.drew) := (HB9.out.trans hb4).drew
          clear hgo hown4 hb4 N4
          have HRW : Hid (∀ w, Calls Try.prog 21 #[.int .u8 vb] w (Made w c)) := fun w => HC.out ▸ HRB.out w
          go_wp2_with fail
          refine wp_region_R (R := fun x y => Below x.heap.size x y) (by kernel_rfl) (fun _ => Below.refl _ _) (fun h k => h.trans (k.mono h.size)) (by kernel_rfl) (fun d v c a w h => by cases d <;> exact h)
            [(0, false), (1, false), (2, false), (3, false), (4, false), (5, false), (6, true), (7, false), (8, false), (9, false), (10, false)] rfl (by kernel_rfl) (by kernel_rfl) ?_
          simp only [sel, List.getElem?_toArray, List.getElem?_cons_succ, List.getElem?_cons_zero]
          generalize y4.drew = wd at *
          iterate 4 (refine sch_take ?_ rfl ?_ ?_; rotate_left; (focus (intro u hu; go_simp <;> rfl)); simp only [Act.put, List.setIfInBounds_toArray, List.set_cons_zero, List.set_cons_succ])
          (refine sch_take ?_ rfl ?_ ?_; rotate_left; (focus (intro u hu; have tx := stext_of (HX.out.below hu); clear hu; go_simp <;> rfl)); simp only [Act.put, List.setIfInBounds_toArray, List.set_cons_zero, List.set_cons_succ])
          (refine sch_take ?_ rfl ?_ ?_; rotate_left; (focus (intro u hu; go_simp <;> rfl)); simp only [Act.put, List.setIfInBounds_toArray, List.set_cons_zero, List.set_cons_succ])
          refine sch_call rfl ?_
          intro K hK
          go_simp
          refine (HRW.out _).mono ?_
          rintro e y5 ⟨vr, rfl, hownr, hbr⟩
          go_wp2_with fail
          refine hK _ _ hbr ?_
          clear hK K
          have HRR := Lib.hid hownr.byt
          have HX := Lib.hid (HX.out.below hbr)
          have HWD := Lib.hid (HWD.out.trans (hbr.mono HWD.out.size))
          clear hownr hbr
          (refine sch_take ?_ rfl ?_ ?_; rotate_left; (focus (intro u hu; have tx := stext_of (HRR.out.below hu); clear hu; go_simp <;> rfl)); simp only [Act.put, List.setIfInBounds_toArray, List.set_cons_zero, List.set_cons_succ])
          iterate 3 (refine sch_take ?_ rfl ?_ ?_; rotate_left; (focus (intro u hu; go_simp <;> rfl)); simp only [Act.put, List.setIfInBounds_toArray, List.set_cons_zero, List.set_cons_succ])
          refine sch_nil ?_
          go_wp2_with fail
          go_ret
          exact ⟨rfl, HWD.out⟩
set_option maxRecDepth 100000 in
set_option maxHeartbeats 8000000 in
theorem walk_03 (w : World) (n : Int) (a b : UInt8) (how : Int) (X : Nat) (hX : X < 10) (hn : n % 10 = (X : Int)) (hh : how % 4 = 3) :
    Calls Try.prog 6 #[.int .i64 n, .int .u8 (a.toNat : Int), .int .u8 (b.toNat : Int), .int .i64 how, .bool false] w fun e w' => e = .returned (.bool true) ∧ Below w.heap.size w w' := by
  obtain ⟨Q0, Q1, Q2, Q3, Q4, Q5, Q6, er, c, D⟩ := drops_are X hX (rowP a) (rowP b) (rowP_len a) (rowP_len b) false 3 (by omega)
  have HD := Lib.hid D
  have HC : Hid (c = rowP a) := D.hc.trans (by simp)
  clear D
  have HRA : Hid (∀ w, Calls Try.prog 21 #[.int .u8 (a.toNat : Int)] w (Made w (rowP a))) := fun w => prow_any w a
  have HRB : Hid (∀ w, Calls Try.prog 21 #[.int .u8 (b.toNat : Int)] w (Made w (rowP b))) := fun w => prow_any w b
  have HPK : Hid (∀ w, Calls Try.prog 20 #[.int .i64 n, .int .i64 10] w fun e w' => e = .returned (.int .i64 (X : Int)) ∧ w = w') := fun w => hn ▸ pick_any n 10 w (by omega) (by omega)
  have HPH : Hid (∀ w, Calls Try.prog 20 #[.int .i64 how, .int .i64 4] w fun e w' => e = .returned (.int .i64 3) ∧ w = w') := fun w => hh ▸ pick_any how 4 w (by omega) (by omega)
  have HN : Hid (∀ w, Calls Try.prog 8 #[.int .i64 80] w (Disked w (newS 80))) := fun w => snew_any w 80 (by omega) (by omega)
  have HSEC : Hid (secs (newS 80) = 80) := secs_new 80
  have HE0 := Lib.hid HD.out.e0
  have HLC : Hid (c.length = 4096) := by rw [HC.out]; exact rowP_len _
  clear hn hh hX
  generalize rowP a = ra at *
  generalize rowP b = rb at *
  generalize newS 80 = s0 at *
  generalize (a.toNat : Int) = va at *
  generalize (b.toNat : Int) = vb at *
  go_enter Try.func6, Try.ntmps6
  go_wp2_with fail
  refine (lives7_any w).mono ?_
  rintro e wl ⟨rfl, hbl⟩
  have HBL := Lib.hid hbl
  clear hbl
  go_wp2_with fail
  refine (HN.out wl).mono ?_
  rintro e w1 ⟨d, rfl, hd1, hb1⟩
  have HSL : Hid (w.heap.size ≤ wl.heap.size) := HBL.out.size
  have HB0 : Hid (Below w.heap.size w w1) := HBL.out.trans (hb1.mono HBL.out.size)
  have HD1 := Lib.hid hd1
  clear hb1 hd1
  go_wp2_with fail
  refine (pnew_is w1 _ d s0 8 HD1.out (by rw [HSEC.out]; omega) (by omega) (by omega)).mono ?_
  rintro e w2 ⟨p, fb, rfl, hp2, hb2⟩
  rw [HE0.out] at hp2
  have hT2 : ∀ k, more (fun k => wl.heap.size ≤ k ∧ k < w1.heap.size) w1 w2 k → w.heap.size ≤ k := fun k hk => hk.elim (fun e => by have := HSL.out; omega) (fun e => by have := HB0.out.size; omega)
  have HB1 : Hid (Below w.heap.size w w2) := HB0.out.trans (hb2.mono HB0.out.size)
  generalize more (fun k => wl.heap.size ≤ k ∧ k < w1.heap.size) w1 w2 = T1 at *
  have HP1 := Lib.hid hp2
  have HT1 := Lib.hid hT2
  clear hp2 hT2 hb2 HD1 HB0 HBL HSL HE0
  go_wp2_with fail
  refine (HPK.out w2).mono ?_
  rintro e w2' ⟨rfl, rfl⟩
  go_wp2_with fail
  refine (HRA.out w2).mono ?_
  rintro e w3 ⟨v, rfl, hown, hbr⟩
  have HPx := Lib.hid (HP1.out.below hbr)
  have HBx : Hid (Below w.heap.size w w3) := HB1.out.trans (hbr.mono HB1.out.size)
  have HNx : Hid (∀ j, v.ownBlock = some j → ¬ T1 j ∧ j < w3.heap.size) := fun j hj => ⟨fun h => by have := (hown.lt j hj).1; have := HP1.out.lt j h; omega, (hown.lt j hj).2⟩
  have HOx := Lib.hid hown.byt
  clear hown hbr
  go_wp2_with fail
  refine (HD.out.e1 ▸ pput_is HPx.out (X : Int) v _ HOx.out HNx.out).mono ?_
  intro e w4 hpo
  obtain ⟨rfl, T2, hp2, hT2, _, hb2⟩ := hpo.own (B := w.heap.size) HBx.out.size HT1.out
  have HP2 := Lib.hid hp2
  have HT2 := Lib.hid hT2
  have HB2 : Hid (Below w.heap.size w w4) := HBx.out.trans hb2
  clear hpo hp2 hT2 hb2 HPx HBx HNx HOx
  go_wp2_with fail
  refine (HD.out.e2 ▸ pflush_is HP2.out).mono ?_
  intro e w5 hpo
  obtain ⟨rfl, T3, hp3, hT3, _, hb3⟩ := hpo.own (B := w.heap.size) HB2.out.size HT2.out
  have HP3 := Lib.hid hp3
  have HT3 := Lib.hid hT3
  have HB3 : Hid (Below w.heap.size w w5) := HB2.out.trans hb3
  clear hpo hp3 hT3 hb3
  go_wp2_with fail
  refine (HRB.out w5).mono ?_
  rintro e w6 ⟨v, rfl, hown, hbr⟩
  have HPx := Lib.hid (HP3.out.below hbr)
  have HBx : Hid (Below w.heap.size w w6) := HB3.out.trans (hbr.mono HB3.out.size)
  have HNx : Hid (∀ j, v.ownBlock = some j → ¬ T3 j ∧ j < w6.heap.size) := fun j hj => ⟨fun h => by have := (hown.lt j hj).1; have := HP3.out.lt j h; omega, (hown.lt j hj).2⟩
  have HOx := Lib.hid hown.byt
  clear hown hbr
  go_wp2_with fail
  refine (HD.out.e3 ▸ pput_is HPx.out (X : Int) v _ HOx.out HNx.out).mono ?_
  intro e w7 hpo
  obtain ⟨rfl, T4, hp4, hT4, _, hb4⟩ := hpo.own (B := w.heap.size) HBx.out.size HT3.out
  have HP4 := Lib.hid hp4
  have HT4 := Lib.hid hT4
  have HB4 : Hid (Below w.heap.size w w7) := HBx.out.trans hb4
  clear hpo hp4 hT4 hb4 HPx HBx HNx HOx
  go_wp2_with fail
  have h4 : Q4 = Q3 := HD.out.e4
  have HP5 : Hid (PAt w7 T4 p d fb Q4) := h4 ▸ HP4.out
  have HT5 := HT4
  have HB5 := HB4
  clear h4 HP4
  refine (HPH.out w7).mono ?_
  rintro e w9' ⟨rfl, rfl⟩
  go_wp2_with fail
  have h5 : resetQ Q4 = (0, Q5) := HD.out.e5
  refine (h5 ▸ preset_is HP5.out).mono ?_
  intro e w9 hpo
  obtain ⟨rfl, T6, hp6, hT6, _, hb6⟩ := hpo.own (B := w.heap.size) HB5.out.size HT5.out
  have HP6 := Lib.hid hp6
  have HT6 := Lib.hid hT6
  have HB6 : Hid (Below w.heap.size w w9) := HB5.out.trans hb6
  clear hpo hp6 hT6 hb6
  go_wp2_with fail
  refine (HD.out.e6 ▸ pdrop_is HP6.out (X : Int)).mono ?_
  intro e y1 hpo
  obtain ⟨rfl, T7, hp7, hT7, _, hb7⟩ := hpo.own (B := w.heap.size) HB6.out.size HT6.out
  have HP7 := Lib.hid hp7
  have HT7 := Lib.hid hT7
  have HB7 : Hid (Below w.heap.size w y1) := HB6.out.trans hb7
  clear hpo hp7 hT7 hb7
  go_wp2_with fail
  refine (HD.out.e7.1 ▸ punpin_is HP7.out (X : Int) (by rw [HD.out.e7.2]; omega)).mono ?_
  intro e y2 hpo
  obtain ⟨rfl, T8, hp8, hT8, _, hb8⟩ := hpo.own (B := w.heap.size) HB7.out.size HT7.out
  have HP8 := Lib.hid hp8
  have HT8 := Lib.hid hT8
  have HB8 : Hid (Below w.heap.size w y2) := HB7.out.trans hb8
  clear hpo hp8 hT8 hb8
  go_wp2_with fail
  refine (pframes_is HP8.out).mono ?_
  rintro e y3 ⟨gf, rfl, hblk, hgf, hb9⟩
  have HF6 := Lib.hid HD.out.f6
  have hl6 := HF6.out.1
  have HA := Lib.hid hblk
  have HP9 := Lib.hid (HP8.out.below hb9)
  have HB9 : Hid (Below w.heap.size w y3) := HB8.out.trans (hb9.mono HB8.out.size)
  rw [hl6]
  clear hblk hgf hb9 hl6 HP8
  go_wp2_with fail
  go_loopw [19] (fun i wr => ToldRel y3 gf Q6.fr i wr) (fun i _ => 8 - (intOf i).toNat)
  case atStart => exact ⟨0, by omega, rfl, rfl⟩
  case round =>
    obtain ⟨k, hk, rfl, rfl⟩ := hrel
    by_cases hlt : k < 8
    · have hkn : (k : Int) < 8 := by omega
      have hkl : k < Q6.fr.length := by rw [HF6.out.1]; exact hlt
      obtain ⟨c0, _⟩ := told_cells HA.out hkl
      rw [HF6.out.2 k] at c0
      go_wp2_with fail
      go_roundw
      case rel => exact ⟨k + 1, by omega, by go_num, rfl⟩
      case measure => simp [intOf]; omega
    · obtain rfl : k = 8 := by omega
      go_wp2_with fail
      refine (pget_is HP9.out (X : Int) (by rw [HD.out.e8.1, HLC.out]; omega)).mono ?_
      intro e y4 hgo
      obtain ⟨v4, T4', rfl, hown4, _, _, _, hb4⟩ := hgo.own (B := w.heap.size) HB9.out.size HT8.out
      rw [HD.out.e8.1] at hown4
      rw [HD.out.e8.2]
      obtain ⟨A4, n4, c4, rfl, N4, hnc4, hcm4⟩ := hown4.byt.form
      have HX := Lib.hid (show Byt y4.drew (.slice A4 n4 c4) c from hown4.byt.drew)
      have HWD : Hid (Below w.heap.size w y4.drew) := (HB9.out.trans hb4).drew
      clear hgo hown4 hb4 N4
      have HRW : Hid (∀ w, Calls Try.prog 21 #[.int .u8 va] w (Made w c)) := fun w => HC.out ▸ HRA.out w
      go_wp2_with fail
      refine wp_region_R (R := fun x y => Below x.heap.size x y) (by kernel_rfl) (fun _ => Below.refl _ _) (fun h k => h.trans (k.mono h.size)) (by kernel_rfl) (fun d v c a w h => by cases d <;> exact h)
        [(0, false), (1, false), (2, false), (3, false), (4, false), (5, false), (6, true), (7, false), (8, false), (9, false), (10, false)] rfl (by kernel_rfl) (by kernel_rfl) ?_
      simp only [sel, List.getElem?_toArray, List.getElem?_cons_succ, List.getElem?_cons_zero]
      generalize y4.drew = wd at *
      iterate 4 (refine sch_take ?_ rfl ?_ ?_; rotate_left; (focus (intro u hu; go_simp <;> rfl)); simp only [Act.put, List.setIfInBounds_toArray, List.set_cons_zero, List.set_cons_succ])
      (refine sch_take ?_ rfl ?_ ?_; rotate_left; (focus (intro u hu; have tx := stext_of (HX.out.below hu); clear hu; go_simp <;> rfl)); simp only [Act.put, List.setIfInBounds_toArray, List.set_cons_zero, List.set_cons_succ])
      (refine sch_take ?_ rfl ?_ ?_; rotate_left; (focus (intro u hu; go_simp <;> rfl)); simp only [Act.put, List.setIfInBounds_toArray, List.set_cons_zero, List.set_cons_succ])
      refine sch_call rfl ?_
      intro K hK
      go_simp
      refine (HRW.out _).mono ?_
      rintro e y5 ⟨vr, rfl, hownr, hbr⟩
      go_wp2_with fail
      refine hK _ _ hbr ?_
      clear hK K
      have HRR := Lib.hid hownr.byt
      have HX := Lib.hid (HX.out.below hbr)
      have HWD := Lib.hid (HWD.out.trans (hbr.mono HWD.out.size))
      clear hownr hbr
      (refine sch_take ?_ rfl ?_ ?_; rotate_left; (focus (intro u hu; have tx := stext_of (HRR.out.below hu); clear hu; go_simp <;> rfl)); simp only [Act.put, List.setIfInBounds_toArray, List.set_cons_zero, List.set_cons_succ])
      iterate 3 (refine sch_take ?_ rfl ?_ ?_; rotate_left; (focus (intro u hu; go_simp <;> rfl)); simp only [Act.put, List.setIfInBounds_toArray, List.set_cons_zero, List.set_cons_succ])
      refine sch_nil ?_
      go_wp2_with fail
      go_ret
      exact ⟨rfl, HWD.out⟩

end Go.Proofs.Ytmfcckmcbmlhmaa.poolDrops
