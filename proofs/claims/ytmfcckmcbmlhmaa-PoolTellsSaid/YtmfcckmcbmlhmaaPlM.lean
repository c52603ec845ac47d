/-
  The examples that each statement of layer 7 asks first. Conditions: none.
-/
import Derived.Test.YtmfcckmcbmlhmaaPlL
namespace Go.Proofs.Ytmfcckmcbmlhmaa
open Go.RowKit Go.Maps
set_option maxRecDepth 100000

def fillP (v : UInt8) (k : Nat) : List UInt8 := List.replicate k v ++ List.replicate (4096 - k) 0
theorem fillP_len (v : UInt8) (k : Nat) (hk : k ≤ 4096) : (fillP v k).length = 4096 := by
  unfold fillP
  rw [List.length_append, List.length_replicate, List.length_replicate]
  omega
theorem fillP_set (v : UInt8) (k : Nat) (hk : k < 4096) : (byc (fillP v k)).set k (.int .u8 (v.toNat : Int)) = byc (fillP v (k + 1)) := by
  have h1 : (byc (fillP v k)).set k (.int .u8 (v.toNat : Int)) = byc ((fillP v k).set k v) := by simp [byc, List.map_set]
  rw [h1]
  congr 1
  unfold fillP
  rw [List.set_append_right _ _ (by rw [List.length_replicate]; exact Nat.le_refl _), List.length_replicate, Nat.sub_self, show 4096 - k = (4096 - (k + 1)) + 1 by omega, List.replicate_succ, List.set_cons_zero, List.replicate_succ']
  simp
theorem fillP_all (v : UInt8) : fillP v 4096 = rowP v := List.append_nil _
def PRowRel (w : World) (v : UInt8) (i : Value) (wr : World) : Prop :=
  ∃ k : Nat, k ≤ 4096 ∧ i = .int .i64 (k : Int) ∧ wr.ownsRow w.heap.size 5 1 (.slice (some ⟨w.heap.size, 0, none⟩) 4096 4096) 4096 (byc (fillP v k)) ∧ Below w.heap.size w wr
set_option maxRecDepth 100000 in
set_option maxHeartbeats 1000000 in
theorem prow_any (w : World) (v : UInt8) : Calls Try.prog 21 #[.int .u8 (v.toNat : Int)] w (Made w (rowP v)) := by
  obtain ⟨i0, hi0, hz0, hz1, hz2⟩ := info_parts uinfo
  have e1 : (madeCells (Value.cells (.int .u8 0)) (4096 * 1)).toList = byc (fillP v 0) := by
    rw [show (Value.cells (.int .u8 0)) = #[.int .u8 0] from rfl, toList_madeCells_one, Nat.mul_one]
    unfold fillP byc
    rw [List.replicate_zero, List.nil_append, List.map_replicate]
    rfl
  have HE := Lib.hid e1
  clear e1
  go_enter Try.func21, Try.ntmps21
  go_wp2_with (at_make; refine wpList_make_full _ rfl _ _ 29 rfl w.heap.size 5 i0 _ 1 Try.underlying29 hi0 hz0 hz1 _ _ _ _ 4096 rfl rfl rfl rfl (by rw [hz2]; omega) (by simp [maxLen]) (Nat.le_refl _) ?_; intro w1 hown1 hg1; have HW := Lib.hid (HE.out ▸ hown1); have HG := Lib.hid (below_none hg1); clear hown1 hg1)
  go_loopw [4] (fun i wr => PRowRel w v i wr) (fun i _ => 4096 - (intOf i).toNat)
  case atStart => exact ⟨0, by omega, rfl, HW.out, HG.out⟩
  case round =>
    obtain ⟨k, hk, rfl, hown, hbel⟩ := hrel
    clear HW HG HE
    by_cases h : k = 4096
    · subst h
      rw [fillP_all] at hown
      have HO := Lib.hid hown
      have HB := Lib.hid hbel
      clear hown hbel
      go_wp2_with fail
      go_ret
      refine made_mk ?_ HB.out
      unfold Own
      rw [rowP_len]
      exact HO.out
    · have hk' : k < 4096 := by omega
      have h8 : (k : Int) < 4096 := by omega
      have hc : wr.cell? ⟨w.heap.size, k, none⟩ = some (.int .u8 (((fillP v k).getD k 0).toNat : Int)) := by
        rw [hown.cellAt k (by omega)]
        have hlt : k < (fillP v k).length := by rw [fillP_len v k hk]; omega
        simp [byc, hlt]
      have hf := hown.frozenAt k
      have HS := Lib.hid (hown.stored k (.int .u8 (v.toNat : Int)))
      have HB := Lib.hid hbel
      clear hown hbel
      go_wp2_with fail
      go_roundw
      case rel => exact ⟨k + 1, by omega, by go_num, by rw [← fillP_set v k hk']; exact HS.out.1, HB.out.setCell (Nat.le_refl _) _⟩
      case measure => simp [intOf]; omega
/-- A call of a pool whose blocks are all of the call's own. -/
theorem POut.own {w w' : World} {T : Nat → Prop} {p d fb B : Nat} {r : Nat × PSt} {e : Ending} (h : POut w T p d fb r e w') (hB : B ≤ w.heap.size) (hT : ∀ k, T k → B ≤ k) :
    e = .returned (.int .i64 (r.1 : Int)) ∧ ∃ T', PAt w' T' p d fb r.2 ∧ (∀ k, T' k → B ≤ k) ∧ Trn T w w' ∧ Below B w w' :=
  ⟨h.1, _, h.2.1, fun k hk => hk.elim (hT k) (fun e => by omega), h.2.2, h.2.2.below hB hT⟩
theorem GOut.own {w w' : World} {T : Nat → Prop} {p d fb B : Nat} {r : List UInt8 × Nat × PSt} {e : Ending} (h : GOut w T p d fb r e w') (hB : B ≤ w.heap.size) (hT : ∀ k, T k → B ≤ k) :
    ∃ v T', e = .returned (.tuple #[v, .int .i64 (r.2.1 : Int)]) ∧ Own w' w.heap.size 5 v r.1 ∧ PAt w' T' p d fb r.2.2 ∧ (∀ k, T' k → B ≤ k) ∧ Trn T w w' ∧ Below B w w' := by
  obtain ⟨v, T', h1, h2, h3, h4, _, h6⟩ := h
  exact ⟨v, T', h1, h2, h3, fun k hk => (h4 k hk).elim (hT k) (fun e => by omega), h6, h6.below hB hT⟩
theorem pat_disk {w : World} {T : Nat → Prop} {p d fb : Nat} {P : PSt} (h : PAt w T p d fb P) : ∃ S, Dsk w S d P.s ∧ ∀ k, S k → T k := by
  obtain ⟨S, l, h, _⟩ := h
  exact ⟨S, h.dsk, h.sT⟩
section
variable (b : Nat → List UInt8) (s0 s1 : St)
/-- The pool of the examples behind k of nine Puts. -/
def exR (k : Nat) : PSt := if k ≤ 8 then exP b s0 k else exQ b s1 0
end
def exW (b : Nat → List UInt8) (s1 : St) (k : Nat) : PSt := exQ b s1 (k - 1)
def LiveRel (w : World) (p d fb : Nat) (b : Nat → List UInt8) (s0 s1 : St) (e i : Value) (wr : World) : Prop := ∃ (k : Nat) (T : Nat → Prop), k ≤ 9 ∧ i = .int .i64 (k : Int) ∧ e = .int .i64 0 ∧ PAt wr T p d fb (exR b s0 s1 k) ∧ (∀ j, T j → w.heap.size ≤ j) ∧ Below w.heap.size w wr
def PinRel (w : World) (p d fb : Nat) (b : Nat → List UInt8) (s1 : St) (i : Value) (wr : World) : Prop := ∃ (k : Nat) (T : Nat → Prop), 1 ≤ k ∧ k ≤ 9 ∧ i = .int .i64 (k : Int) ∧ PAt wr T p d fb (exW b s1 k) ∧ (∀ j, T j → w.heap.size ≤ j) ∧ Below w.heap.size w wr
set_option maxRecDepth 100000 in
set_option maxHeartbeats 4000000 in
theorem lives7_any (w : World) : Calls Try.prog 10 #[] w fun e w' => e = .returned (.bool true) ∧ Below w.heap.size w w' := by
  obtain ⟨s1, hs, h0, h1, hkeys⟩ := ex_all
  have HPUT : Hid (∀ k : Nat, k < 9 → putQ (exR (fun i => rowP (UInt8.ofNat i)) (newS 96) s1 k) (k : Int) (rowP (UInt8.ofNat k)) = (0, exR (fun i => rowP (UInt8.ofNat i)) (newS 96) s1 (k + 1))) := fun k hk => by
    by_cases e : k = 8
    · subst e
      exact ex_put8 (b := fun i => rowP (UInt8.ofNat i)) (fun i => rowP_len _) h0 hs
    · unfold exR
      rw [if_pos (by omega), if_pos (by omega)]
      exact ex_put (b := fun i => rowP (UInt8.ofNat i)) (fun i => rowP_len _) h0 k (by omega)
  have HPIN : Hid (∀ k : Nat, 1 ≤ k → k < 9 → pinQ (exW (fun i => rowP (UInt8.ofNat i)) s1 k) (k : Int) = (0, exW (fun i => rowP (UInt8.ofNat i)) s1 (k + 1)) ∧ ((fetchQ (exW (fun i => rowP (UInt8.ofNat i)) s1 k) (k : Int)).2.2.fr.getD (fetchQ (exW (fun i => rowP (UInt8.ofNat i)) s1 k) (k : Int)).2.1 zeroF).pins = 0) := fun k hk1 hk => by
    obtain ⟨j, rfl⟩ : ∃ j, k = j + 1 := ⟨k - 1, by omega⟩
    exact ⟨ex_pin h1 j (by omega), ex_pins h1 j (by omega)⟩
  have HGET : Hid (getQ (exW (fun i => rowP (UInt8.ofNat i)) s1 9) 9 = ([], 9, exQ (fun i => rowP (UInt8.ofNat i)) s1 8)) := ex_get h1
  have HL : Hid (∀ k : Nat, (rowP (UInt8.ofNat k)).length = 4096) := fun k => rowP_len _
  have HR : Hid (∀ (w : World) (k : Nat), k < 256 → Calls Try.prog 21 #[.int .u8 (k : Int)] w (Made w (rowP (UInt8.ofNat k)))) := fun w k hk => by
    have := prow_any w (UInt8.ofNat k)
    rw [show (UInt8.ofNat k).toNat = k by rw [UInt8.toNat_ofNat']; omega] at this
    exact this
  have H0 : Hid (newQ (newS 96) 8 = exR (fun i => rowP (UInt8.ofNat i)) (newS 96) s1 0) := rfl
  have HQ0 : Hid (exR (fun i => rowP (UInt8.ofNat i)) (newS 96) s1 9 = exQ (fun i => rowP (UInt8.ofNat i)) s1 0) := rfl
  have HF0 : Hid ((exQ (fun i => rowP (UInt8.ofNat i)) s1 0).fr.length = 8 ∧ ((exQ (fun i => rowP (UInt8.ofNat i)) s1 0).fr.getD 0 zeroF).page = 8 ∧ (exQ (fun i => rowP (UInt8.ofNat i)) s1 0).s = s1) := ⟨rfl, rfl, rfl⟩
  have HKY := Lib.hid hkeys
  have HN : Hid (∀ w, Calls Try.prog 8 #[.int .i64 96] w (Disked w (newS 96))) := fun w => snew_any w 96 (by omega) (by omega)
  have HSEC : Hid (secs (newS 96) = 96) := secs_new 96
  clear hs h0 h1 hkeys
  generalize (fun i => rowP (UInt8.ofNat i)) = b at *
  generalize newS 96 = s0 at *
  go_enter Try.func10, Try.ntmps10
  go_wp2_with fail
  refine (HN.out w).mono ?_
  rintro e w1 ⟨d, rfl, hd1, hb1⟩
  have HB1 := Lib.hid hb1
  have HD1 := Lib.hid hd1
  clear hb1 hd1
  go_wp2_with fail
  refine (pnew_is w1 _ d s0 8 HD1.out (by rw [HSEC.out]; omega) (by omega) (by omega)).mono ?_
  rintro e w2 ⟨p, fb, rfl, hp2, hb2⟩
  have hP2 : PAt w2 (more (fun k => w.heap.size ≤ k ∧ k < w1.heap.size) w1 w2) p d fb (exR b s0 s1 0) := H0.out ▸ hp2
  have HP2 := Lib.hid hP2
  have HB2 : Hid (Below w.heap.size w w2) := HB1.out.trans (hb2.mono HB1.out.size)
  have HS1 : Hid (w.heap.size ≤ w1.heap.size) := HB1.out.size
  clear hp2 hb2 hP2 HD1 H0
  go_wp2_with fail
  go_loopw [4, 5] (fun e i wr => LiveRel w p d fb b s0 s1 e i wr) (fun _ i _ => 9 - (intOf i).toNat)
  case atStart => exact ⟨0, _, by omega, rfl, rfl, HP2.out, fun k hk => hk.elim (fun e => e.1) (fun e => by have := HS1.out; omega), HB2.out⟩
  case round =>
    obtain ⟨k, T, hk, rfl, rfl, hp, hT, hbel⟩ := hrel
    have HP := Lib.hid hp
    have HT := Lib.hid hT
    have HB := Lib.hid hbel
    clear hp hT hbel HP2 HB2 HB1
    by_cases hlt : k < 9
    · have hkn : (k : Int) < 9 := by omega
      have hwr : IntKind.u8.wrap (k : Int) = (k : Int) := by rw [IntKind.wrap_u8]; omega
      go_wp2_with fail
      refine (HR.out wr k (by omega)).mono ?_
      rintro e w3 ⟨v, rfl, hown, hb3⟩
      have HOW := Lib.hid hown
      have HB3 := Lib.hid hb3
      clear hown hb3
      go_wp2_with fail
      refine (pput_is (HP.out.below HB3.out) (k : Int) v _ HOW.out.byt (fun j hj => ⟨fun h => by have := (HOW.out.lt j hj).1; have := HP.out.lt j h; omega, (HOW.out.lt j hj).2⟩)).mono ?_
      intro e w4 hpo
      obtain ⟨rfl, T4, hp4, hT4, ht4, hb4⟩ := hpo.own (B := w.heap.size) (Nat.le_trans HB.out.size HB3.out.size) HT.out
      rw [HPUT.out k hlt] at hp4
      rw [HPUT.out k hlt]
      have HP4 := Lib.hid hp4
      have HT4 := Lib.hid hT4
      have HB4 : Hid (Below w.heap.size w w4) := (HB.out.trans (HB3.out.mono HB.out.size)).trans hb4
      clear hpo hp4 hT4 ht4 hb4
      go_wp2_with fail
      go_roundw
      case rel => exact ⟨k + 1, T4, by omega, by go_num, rfl, HP4.out, HT4.out, HB4.out⟩
      case measure => simp [intOf]; omega
    · obtain rfl : k = 9 := by omega
      rw [HQ0.out] at HP
      clear HPUT HR HN HSEC HL
      go_wp2_with fail
      refine (pframes_is HP.out).mono ?_
      rintro e w3 ⟨gf, rfl, hblk, hgf, hb3⟩
      have hgl : gf < w3.heap.size := (Array.getElem?_eq_some_iff.1 hblk).1
      have c0 : w3.cell? ⟨gf, 1, none⟩ = some (.int .i64 8) := by
        rw [cell_of_row _ _ _ _ _ _ hblk, List.getElem?_toArray]
        have hl := HF0.out.1
        have := fm_get (m := 5) (g := afL) (fun _ => rfl) (exQ b s1 0).fr 0 (by rw [hl]; omega) 1 (by omega)
        rw [Nat.zero_mul, Nat.zero_add] at this
        rw [this]
        have h2 := HF0.out.2.1
        simp [hl] at h2
        simp [afL, h2]
      have HP3 := Lib.hid (HP.out.below hb3)
      have HB3 := Lib.hid (HB.out.trans (hb3.mono HB.out.size))
      obtain ⟨S3, hd3, hS3⟩ := pat_disk (HP.out.below hb3)
      rw [HF0.out.2.2] at hd3
      have HD3 := Lib.hid hd3
      rw [HF0.out.1]
      clear hblk hb3 hd3 hgl hgf hS3
      go_wp2_with fail
      refine (cached_is w3 S3 d s1 HD3.out).mono ?_
      rintro e w4 ⟨v4, rfl, hown4, hb4⟩
      obtain ⟨A4, n4, c4, rfl, N4, hnc4, hcm4⟩ := (ints_rowz hown4).form
      obtain rfl : n4 = 8 := by have := N4.out; rw [inz_len, keysC_len] at this; rw [this, ← keysC_len]; exact HKY.out
      have HP4 := Lib.hid (HP3.out.below hb4)
      have HB4 := Lib.hid (HB3.out.trans (hb4.mono HB3.out.size))
      clear hown4 hb4 N4 HP3 HB3 c0 HP HB
      go_wp2_with fail
      go_loopw [7] (fun i wr => PinRel w p d fb b s1 i wr) (fun i _ => 9 - (intOf i).toNat)
      case atStart => exact ⟨1, T, by omega, by omega, rfl, HP4.out, HT.out, HB4.out⟩
      case round =>
        obtain ⟨k, T2, hk1, hk, rfl, hp, hT, hbel⟩ := hrel
        have HP5 := Lib.hid hp
        have HT5 := Lib.hid hT
        have HB5 := Lib.hid hbel
        clear hp hT hbel HP4 HB4
        by_cases hlt : k < 9
        · have hkn : (k : Int) < 9 := by omega
          obtain ⟨hq1, hq2⟩ := HPIN.out k hk1 hlt
          have HQ1 := Lib.hid hq1
          have HPC := Lib.hid (ppin_is HP5.out (k : Int) (by rw [hq2]; omega))
          rw [HQ1.out] at HPC
          clear hq1 hq2 HPIN
          go_wp2_with fail
          refine HPC.out.mono ?_
          intro e w5 hpo
          obtain ⟨rfl, T6, hp6, hT6, ht6, hb6⟩ := hpo.own (B := w.heap.size) HB5.out.size HT5.out
          have HP6 := Lib.hid hp6
          have HT6 := Lib.hid hT6
          have HB6 : Hid (Below w.heap.size w w5) := HB5.out.trans hb6
          clear hpo hp6 hT6 ht6 hb6
          go_wp2_with fail
          go_roundw
          case rel => exact ⟨k + 1, T6, by omega, by omega, by go_num, HP6.out, HT6.out, HB6.out⟩
          case measure => simp [intOf]; omega
        · obtain rfl : k = 9 := by omega
          have HGC := Lib.hid (pget_is HP5.out 9 (by rw [HGET.out]; simp))
          rw [HGET.out] at HGC
          go_wp2_with fail
          refine HGC.out.mono ?_
          intro e w6 hgo
          obtain ⟨v6, T6, rfl, _, _, _, _, hb6⟩ := hgo.own (B := w.heap.size) HB5.out.size HT5.out
          have HB6 : Hid (Below w.heap.size w w6) := HB5.out.trans hb6
          clear hgo hb6
          go_wp2_with fail
          go_ret
          exact ⟨rfl, HB6.out⟩
end Go.Proofs.Ytmfcckmcbmlhmaa
