/-
  The statement PoolTells: what Get tells is what was Put last, or what the disk had, whatever the frames and evictions; what is pinned stays. Conditions: none.
-/
import Derived.Test.YtmfcckmcbmlhmaaPlO
import Derived.Test.YtmfcckmcbmlhmaaOpen
import Derived.Deep.CutBlock
import Derived.Deep.DeepCutAuto
import Derived.Deep.Cut
import Derived.RegionTactic
namespace Go.Proofs.Ytmfcckmcbmlhmaa.poolTells
open Go.ChangeShapes Go.WideShapes Go.ChangeAt Go.RowKit Go.Maps
set_option maxRecDepth 100000
set_option linter.unusedVariables false

theorem makeBytes (n : Nat) (hn : n ≤ 40) (x : Int) (hx : x = (n : Int)) : ∀ W, (Instr.makeSlice 29 (.int .i64 x) (.int .i64 x)).run Try.prog W = .ok (.slice (some ⟨W.heap.size, 0, none⟩) n n) (W.alloc (.cells (byc (List.replicate n 0)).toArray 5)) := by
  subst hx
  intro W
  obtain ⟨i0, hi0, hz0, hz1, hz2⟩ := info_parts uinfo
  have hr := run_make (P := Try.prog) W 29 5 i0 _ Try.underlying29 hi0 hz0 .i64 .i64 (n : Int) (n : Int) (by omega) (Int.le_refl _) (by rw [hz2]; omega) (by omega)
  rw [hr]
  simp only [Int.toNat_natCast, hz1, Nat.mul_one]
  have e : madeCells (Value.cells (.int .u8 0)) n = (byc (List.replicate n 0)).toArray := by
    have := made_zeros n
    rw [Nat.mul_one] at this
    unfold zsB at this
    rw [← this]
  rw [e]
theorem makeInts (n : Nat) (hn : n ≤ 40) (x : Int) (hx : x = (n : Int)) : ∀ W, (Instr.makeSlice 41 (.int .i64 x) (.int .i64 x)).run Try.prog W = .ok (.slice (some ⟨W.heap.size, 0, none⟩) n n) (W.alloc (.cells (inz (List.replicate n 0)).toArray 3)) := by
  subst hx
  intro W
  obtain ⟨i0, hi0, hz0, hz1, hz2⟩ := info_parts iinfo
  have hr := run_make (P := Try.prog) W 41 3 i0 _ Try.underlying41 hi0 hz0 .i64 .i64 (n : Int) (n : Int) (by omega) (Int.le_refl _) (by rw [hz2]; omega) (by omega)
  rw [hr]
  simp only [Int.toNat_natCast, hz1, Nat.mul_one]
  have e : madeCells (Value.cells (.int .i64 0)) n = (inz (List.replicate n 0)).toArray := by
    rw [show (Value.cells (.int .i64 0)) = #[.int .i64 0] from rfl]
    apply Array.ext'
    rw [toList_madeCells_one]
    simp [inz]
  rw [e]
/-- Both rows, just made. -/
def Two (w3 : World) (n m : Nat) (s0 s1 s10 s11 : Value) (wc : World) : Prop :=
  ∃ hb pb, s0 = .int .i64 (n : Int) ∧ s1 = .int .i64 (m : Int) ∧ s10 = .slice (some ⟨hb, 0, none⟩) n n ∧ s11 = .slice (some ⟨pb, 0, none⟩) n n ∧ hb ≠ pb ∧ w3.heap.size ≤ hb ∧ w3.heap.size ≤ pb ∧ Below w3.heap.size w3 wc ∧
    wc.heap[hb]? = some (.cells (byc (List.replicate n 0)).toArray 5 (0, 0)) ∧ wc.heap[pb]? = some (.cells (inz (List.replicate n 0)).toArray 3 (0, 0))
theorem two_made (w : World) (o1 o2 : Obj) : Below w.heap.size w ((w.alloc o1).alloc o2).drew ∧ ((w.alloc o1).alloc o2).drew.heap[w.heap.size]? = some o1 ∧ ((w.alloc o1).alloc o2).drew.heap[w.heap.size + 1]? = some o2 := by
  refine ⟨((below_new w _).alloc (by simp) _).drew, ?_, ?_⟩
  · show ((w.alloc _).alloc _).heap[w.heap.size]? = _
    rw [heap_alloc_old _ _ (by simp)]
    exact heap_alloc_new w _
  · have := heap_alloc_new (w.alloc o1) o2
    rw [World.size_alloc] at this
    exact this
theorem own_made {w : World} {g n : Nat} {e : TypeId} {xs : List Value} (h : w.heap[g]? = some (.cells xs.toArray e (0, 0))) (hl : xs.length = n) (hn : n ≤ 100000) : w.ownsRow 0 e 1 (.slice (some ⟨g, 0, none⟩) n n) n xs :=
  ⟨by rw [hl, Nat.mul_one], .inr ⟨g, n, xs.toArray, rfl, Nat.zero_le _, h, Nat.le_refl _, by simp [maxLen]; omega, by rw [List.size_toArray, hl, Nat.mul_one], by rw [Nat.mul_one, ← hl]; simp⟩⟩
def ImgR (w5 : World) (n : Nat) (i : Value) (wr : World) : Prop := ∃ j : Nat, j ≤ n ∧ i = .int .i64 (j : Int) ∧ Below w5.heap.size w5 wr
def HeldR (w5 : World) (fr : List Fr) (n : Nat) (i : Value) (wr : World) : Prop := ∃ j : Nat, j ≤ fr.length ∧ i = .int .i64 (j : Int) ∧ wr.ownsRow 0 3 1 (.slice (some ⟨w5.heap.size, 0, none⟩) n n) n (inz (heldI n fr j)) ∧ Below w5.heap.size w5 wr
theorem held_start (w5 : World) (fr : List Fr) (n : Nat) (hn : n ≤ 100) : (w5.alloc (.cells (inz (List.replicate n 0)).toArray 3)).ownsRow 0 3 1 (.slice (some ⟨w5.heap.size, 0, none⟩) n n) n (inz (heldI n fr 0)) := by
  have : heldI n fr 0 = List.replicate n 0 := by simp [heldI]
  rw [this]
  exact own_made (heap_alloc_new w5 _) (by simp [inz]) (by omega)
def LoopR (w : World) (p d fb hb pb n m N : Nat) (i : Value) (wr : World) : Prop := ∃ k : Nat, k ≤ N ∧ i = .int .i64 (k : Int) ∧ TAll w p d fb hb pb n m k wr
set_option maxRecDepth 100000 in
set_option maxHeartbeats 16000000 in
theorem walk (w : World) (pg fr : Int) (v : Value) (N : Nat) (f : Nat → Act7) (hpg : -9223372036854775808 ≤ pg ∧ pg ≤ 9223372036854775807) (hfr : -9223372036854775808 ≤ fr ∧ fr ≤ 9223372036854775807) (hv : Acts7 w v N f) :
    Calls Try.prog 5 #[.int .i64 pg, .int .i64 fr, v] w fun e w' => e = .returned (.bool true) ∧ Below w.heap.size w w' := by
  obtain ⟨A, c, rfl, hnc, hcm⟩ := Recs.form hv
  have HV := Lib.hid hv
  have HP20 := Lib.hid (fun w => pick_any pg 20 w (by omega) (by omega))
  have HP8 := Lib.hid (fun w => pick_any fr 8 w (by omega) (by omega))
  obtain ⟨n, hn⟩ : ∃ n : Nat, (n : Int) = 1 + pg % 20 := ⟨(1 + pg % 20).toNat, by omega⟩
  obtain ⟨m, hm⟩ : ∃ m : Nat, (m : Int) = 8 + fr % 8 := ⟨(8 + fr % 8).toNat, by omega⟩
  have x0 : 0 ≤ pg % 20 := by omega
  have x1 : pg % 20 < 20 := by omega
  have y0 : 0 ≤ fr % 8 := by omega
  have y1 : fr % 8 < 8 := by omega
  clear hv hpg hfr
  generalize pg % 20 = x at *
  generalize fr % 8 = y at *
  have HXN := Lib.hid hn
  have HYM := Lib.hid hm
  have HN1 : Hid (1 ≤ n ∧ n ≤ 20) := by rw [Hid]; omega
  have HM1 : Hid (8 ≤ m ∧ m ≤ 15) := by rw [Hid]; omega
  clear hn hm
  by_cases hN : (100 : Int) < (N : Int)
  · go_enter Try.func5, Try.ntmps5
    go_wp2_with fail
    refine (lives7_any w).mono ?_
    rintro e wl ⟨rfl, hbl⟩
    go_wp2_with fail
    refine (HP20.out wl).mono ?_
    rintro e wl' ⟨rfl, rfl⟩
    go_wp2_with fail
    refine (HP8.out wl).mono ?_
    rintro e wl' ⟨rfl, rfl⟩
    go_wp2_with fail
    go_ret
    exact ⟨rfl, hbl⟩
  · have hN100 : N ≤ 100 := by omega
    have HNW : Hid (∀ (z : Int) w, z = ((8 * n : Nat) : Int) → Calls Try.prog 8 #[.int .i64 z] w (Disked w (newS (8 * n)))) := fun z w hz => hz ▸ snew_any w (8 * n) (by have := HN1.out; omega) (by have := HN1.out; omega)
    have HPN : Hid (∀ (z : Int) w S d, z = (m : Int) → Dsk w S d (newS (8 * n)) → Calls Try.prog 7 #[.pointer (some ⟨d, 0, none⟩), .int .i64 z] w (Newed w S d (newQ (newS (8 * n)) m))) := fun z w S d hz h => hz ▸ pnew_is w S d _ m h (by rw [secs_new]; have := HN1.out; omega) HM1.out.1 (by have := HM1.out; omega)
    have HT0 : Hid (TInv n m (fun _ => List.replicate 4096 0) (fun _ => 0) (newQ (newS (8 * n)) m)) := new_t n m (by have := HN1.out; omega) (by have := HN1.out; omega) (by have := HM1.out; omega)
    generalize newQ (newS (8 * n)) m = P0 at *
    generalize newS (8 * n) = s0 at *
    go_enter Try.func5, Try.ntmps5
    go_wp2_with fail
    refine (lives7_any w).mono ?_
    rintro e wl ⟨rfl, hbl⟩
    have HBL := Lib.hid hbl
    clear hbl
    go_wp2_with fail
    refine (HP20.out wl).mono ?_
    rintro e wl' ⟨rfl, rfl⟩
    go_wp2_with fail
    refine (HP8.out wl).mono ?_
    rintro e wl' ⟨rfl, rfl⟩
    go_wp2_with fail
    refine (HNW.out _ wl (by have := HXN.out; omega)).mono ?_
    rintro e w1 ⟨d, rfl, hd1, hb1⟩
    have HSL : Hid (w.heap.size ≤ wl.heap.size) := HBL.out.size
    have HB0 : Hid (Below w.heap.size w w1) := HBL.out.trans (hb1.mono HBL.out.size)
    have HD1 := Lib.hid hd1
    clear hb1 hd1
    go_wp2_with fail
    refine (HPN.out _ w1 _ d (by have := HYM.out; omega) HD1.out).mono ?_
    rintro e w2 ⟨p, fb, rfl, hp2, hb2⟩
    have hT2 : ∀ k, more (fun k => wl.heap.size ≤ k ∧ k < w1.heap.size) w1 w2 k → w.heap.size ≤ k := fun k hk => hk.elim (fun e => by have := HSL.out; omega) (fun e => by have := HB0.out.size; omega)
    have HB1 : Hid (Below w.heap.size w w2) := HB0.out.trans (hb2.mono HB0.out.size)
    generalize more (fun k => wl.heap.size ≤ k ∧ k < w1.heap.size) w1 w2 = T1 at *
    have HP1 := Lib.hid hp2
    have HT1 := Lib.hid hT2
    clear hp2 hT2 hb2 HD1 HB0 HBL HSL HNW HPN
    have MB := makeBytes n (by have := HN1.out; omega) (1 + x) HXN.out.symm
    have MI := makeInts n (by have := HN1.out; omega) (1 + x) HXN.out.symm
    go_wp2_with fail
    go_cut [0, 1, 10, 11] from 23 (fun s0 s1 s10 s11 wc => Two w2 n m s0 s1 s10 s11 wc)
    case first =>
      rename_i J0 K0 hJ0 hK0
      go_region
      · refine hK0 _ _ (Met.intro (hJ0 _ _ ?_))
        repeat apply Exists.intro
        have := two_made w2 (.cells (byc (List.replicate n 0)).toArray 5 (0, 0)) (.cells (inz (List.replicate n 0)).toArray 3 (0, 0))
        refine ⟨⟨_, _, by rw [HXN.out], by rw [HYM.out], rfl, rfl, by omega, by omega, by omega, this.1, this.2.1, this.2.2⟩, rfl⟩
      · refine hK0 _ _ (Met.intro (hJ0 _ _ ?_))
        repeat apply Exists.intro
        have := two_made w2 (.cells (inz (List.replicate n 0)).toArray 3 (0, 0)) (.cells (byc (List.replicate n 0)).toArray 5 (0, 0))
        refine ⟨⟨_, _, by rw [HXN.out], by rw [HYM.out], rfl, rfl, by omega, by omega, by omega, this.1, this.2.2, this.2.1⟩, rfl⟩
    case rest =>
      obtain ⟨hb, pb, rfl, rfl, rfl, rfl, hne, hh, hp, hbc, hhb, hpb⟩ := hcut
      have hmem : TMem w wc p d fb hb pb n P0 T1 (List.replicate n 0) (List.replicate n 0) := by
        have hs2 := HB1.out.size
        refine ⟨HP1.out.below hbc, ?_, own_made hpb (by simp [inz]) (by have := HN1.out; omega), List.length_replicate, List.length_replicate, fun k hk => ⟨HT1.out k hk, ?_, ?_⟩, by omega, by omega, hne, HB1.out.trans (hbc.mono HB1.out.size)⟩
        · unfold Own
          rw [List.length_replicate]
          exact own_made hhb (by simp [byc]) (by have := HN1.out; omega)
        · have := HP1.out.lt k hk; omega
        · have := HP1.out.lt k hk; omega
      have hall : TAll w p d fb hb pb n m 0 wc := by
        refine ⟨P0, T1, _, _, hmem, ?_, fun y => ?_⟩
        · have e1 : hasL (List.replicate n 0) = fun _ => List.replicate 4096 0 := by
            funext y
            unfold hasL rowP
            simp only [List.getD_eq_getElem?_getD, List.getElem?_replicate]
            split <;> rfl
          have e2 : pinsL (List.replicate n 0) = fun _ => 0 := by
            funext y
            unfold pinsL
            simp only [List.getD_eq_getElem?_getD, List.getElem?_replicate]
            split <;> rfl
          rw [e1, e2]
          exact HT0.out
        · unfold pinsL
          simp only [List.getD_eq_getElem?_getD, List.getElem?_replicate]
          split <;> simp
      have HALL := Lib.hid hall
      clear hmem hall hhb hpb hbc hh hp hne HP1 HT1 HT0 MB MI HB1 x0 x1 y0 y1
      go_wp2_with fail
      go_loopw [12] (fun i wr => LoopR w p d fb hb pb n m N i wr) (fun i _ => N - (intOf i).toNat)
      case atStart => exact ⟨0, by omega, rfl, HALL.out⟩
      case round =>
        obtain ⟨k, hk, rfl, hall⟩ := hrel
        obtain ⟨P, T, hs, ps, hmem, hinv, hfew⟩ := hall
        have HM := Lib.hid hmem
        have HI := Lib.hid hinv
        have HFW := Lib.hid hfew
        clear hmem hinv hfew HALL HXN HYM
        by_cases hlt : k < N
        · have hkn : (k : Int) < (N : Int) := by omega
          obtain ⟨ab, off, rfl, hab, hcell, hok⟩ := Recs.at HV.out hlt
          have HAC : Hid (∀ W, Below w.heap.size w W → W.cell? ⟨ab, off + k * 3, none⟩ = some (.int .i64 (f k).kind) ∧ W.cell? ⟨ab, off + k * 3 + 1, none⟩ = some (.int .i64 (f k).n) ∧ W.cell? ⟨ab, off + k * 3 + 2, none⟩ = some (.int .u8 ((f k).v.toNat : Int))) := fun W hW =>
            ⟨(hW.cell (p := ⟨ab, _, none⟩) hab).trans (hcell 0 _ rfl), (hW.cell (p := ⟨ab, _, none⟩) hab).trans (hcell 1 _ rfl), (hW.cell (p := ⟨ab, _, none⟩) hab).trans (hcell 2 _ rfl)⟩
          obtain ⟨c0, c1, c2⟩ := HAC.out wr HM.out.bel
          obtain ⟨X, hX⟩ : ∃ X : Nat, (f k).n % (n : Int) = (X : Int) := ⟨((f k).n % (n : Int)).toNat, by have := Int.emod_nonneg (f k).n (show (n : Int) ≠ 0 by have := HN1.out; omega); omega⟩
          have hXn : X < n := by have := Int.emod_lt_of_pos (f k).n (show (0 : Int) < n by have := HN1.out; omega); omega
          have HPX : Hid (∀ w, Calls Try.prog 20 #[.int .i64 (f k).n, .int .i64 (n : Int)] w fun e w' => e = .returned (.int .i64 (X : Int)) ∧ w = w') := fun w => hX ▸ pick_any (f k).n n w (by have := HN1.out; omega) (by have := HN1.out; omega)
          have HP9 : Hid (∀ w, Calls Try.prog 20 #[.int .i64 (f k).kind, .int .i64 9] w fun e w' => e = .returned (.int .i64 ((f k).kind % 9)) ∧ w = w') := fun w => pick_any (f k).kind 9 w (by omega) (by omega)
          have HPM : Hid (∀ w, Calls Try.prog 20 #[.int .i64 (f k).n, .int .i64 (m : Int)] w fun e w' => e = .returned (.int .i64 ((f k).n % (m : Int))) ∧ w = w') := fun w => pick_any (f k).n m w (by have := HM1.out; omega) (by have := HM1.out; omega)
          have h9 : (f k).kind % 9 = 0 ∨ (f k).kind % 9 = 1 ∨ (f k).kind % 9 = 2 ∨ (f k).kind % 9 = 3 ∨ (f k).kind % 9 = 4 ∨ (f k).kind % 9 = 5 ∨ (f k).kind % 9 = 6 ∨ (f k).kind % 9 = 7 ∨ (f k).kind % 9 = 8 := by omega
          have HR : Hid (∀ w, Calls Try.prog 21 #[.int .u8 ((f k).v.toNat : Int)] w (Made w (rowP (f k).v))) := fun w => prow_any w (f k).v
          have H9 := Lib.hid h9
          clear hcell hok hab hX h9
          generalize (f k).kind % 9 = kd at *
          generalize (f k).kind = kind at *
          generalize (f k).n % (m : Int) = fr9 at *
          generalize (f k).n = an at *
          generalize (f k).v = av at *
          have hxn : (X : Int) < (n : Int) := by omega
          have HXX := Lib.hid hXn
          clear hXn
          go_wp2_with fail
          refine (HPX.out wr).mono ?_
          rintro e wr' ⟨rfl, rfl⟩
          go_upto_block 2 with fail
          refine (HP9.out wr).mono ?_
          rintro e wr' ⟨rfl, rfl⟩
          go_upto_block 2 with fail
          go_cut [] (fun wc => TAll w p d fb hb pb n m (k + 1) wc)
          case first =>
            rcases H9.out with rfl | rfl | rfl | rfl | rfl | rfl | rfl | rfl | rfl
            · as_aux_lemma =>
                go_wp2_with fail
                obtain ⟨g1, g2⟩ := get_t HI.out HXX.out
                have hlen : (getQ P (X : Int)).1.length ≤ 70368744177664 := by rcases g2 with ⟨_, e⟩ | ⟨_, e⟩ <;> rw [e] <;> simp [hasL, rowP_len]
                have HG := Lib.hid (pget_is HM.out.pool (X : Int) hlen)
                have HG1 := Lib.hid g1
                refine HG.out.mono ?_
                rintro e w4 ⟨v4, T4, rfl, hown4, hp4, hT4, hnb, ht4⟩
                have HM4 := Lib.hid (HM.out.call hp4 hT4 ht4)
                rcases g2 with ⟨ge, gb⟩ | ⟨ge, gb⟩
                · rw [gb] at hown4
                  rw [ge]
                  obtain ⟨A4, n4, c4, rfl, N4, hnc4, hcm4⟩ := hown4.byt.form
                  have HX := Lib.hid (show Byt w4.drew (.slice A4 n4 c4) (hasL hs X) from hown4.byt.drew)
                  have HM5 := Lib.hid (HM4.out.below (Below.refl _ w4).drew)
                  have HRX : Hid (∀ w, Calls Try.prog 21 #[.int .u8 ((hs.getD X 0).toNat : Int)] w (Made w (hasL hs X))) := fun w => prow_any w _
                  generalize hasL hs X = hx at *
                  clear hown4 hp4 hT4 hnb ht4 g1 ge gb hlen HG HM4 N4
                  go_wp2_with fail
                  refine wp_region_R (R := fun x y => Below x.heap.size x y) (by kernel_rfl) (fun _ => Below.refl _ _) (fun h k => h.trans (k.mono h.size)) (by kernel_rfl) (fun d v c a w h => by cases d <;> exact h)
                    [(0, false), (1, false), (2, false), (3, false), (4, false), (5, false), (6, false), (7, false), (8, false), (9, false), (10, false), (11, false), (12, false), (13, false), (14, false), (15, false), (16, true), (17, false), (18, false), (19, false), (20, false)] rfl (by kernel_rfl) (by kernel_rfl) ?_
                  simp only [sel, List.getElem?_toArray, List.getElem?_cons_succ, List.getElem?_cons_zero]
                  generalize w4.drew = wd at *
                  iterate 3 (refine sch_take ?_ rfl ?_ ?_; rotate_left; (focus (intro u hu; go_simp <;> rfl)); simp only [Act.put, List.setIfInBounds_toArray, List.set_cons_zero, List.set_cons_succ])
                  refine sch_idle rfl ?_
                  simp only [Act.put, List.setIfInBounds_toArray, List.set_cons_zero, List.set_cons_succ]
                  refine sch_idle rfl ?_
                  simp only [Act.put, List.setIfInBounds_toArray, List.set_cons_zero, List.set_cons_succ]
                  iterate 6 (refine sch_take ?_ rfl ?_ ?_; rotate_left; (focus (intro u hu; go_simp <;> rfl)); simp only [Act.put, List.setIfInBounds_toArray, List.set_cons_zero, List.set_cons_succ])
                  (refine sch_take ?_ rfl ?_ ?_; rotate_left; (focus (intro u hu; have tx := stext_of (HX.out.below hu); clear hu; go_simp <;> rfl)); simp only [Act.put, List.setIfInBounds_toArray, List.set_cons_zero, List.set_cons_succ])
                  iterate 3 (refine sch_take ?_ rfl ?_ ?_; rotate_left; (focus (intro u hu; go_simp <;> rfl)); simp only [Act.put, List.setIfInBounds_toArray, List.set_cons_zero, List.set_cons_succ])
                  (refine sch_take ?_ rfl ?_ ?_; rotate_left; (focus (intro u hu; have cc := ((HM5.out.below hu).cells HXX.out).1; clear hu; go_simp <;> rfl)); simp only [Act.put, List.setIfInBounds_toArray, List.set_cons_zero, List.set_cons_succ])
                  refine sch_call rfl ?_
                  intro K hK
                  go_simp
                  refine (HRX.out _).mono ?_
                  rintro e y5 ⟨vr, rfl, hownr, hbr⟩
                  go_wp2_with fail
                  refine hK _ _ hbr ?_
                  clear hK K
                  have HRR := Lib.hid hownr.byt
                  have HX := Lib.hid (HX.out.below hbr)
                  have HM5 := Lib.hid (HM5.out.below hbr)
                  clear hownr hbr
                  (refine sch_take ?_ rfl ?_ ?_; rotate_left; (focus (intro u hu; have tx := stext_of (HRR.out.below hu); clear hu; go_simp <;> rfl)); simp only [Act.put, List.setIfInBounds_toArray, List.set_cons_zero, List.set_cons_succ])
                  iterate 3 (refine sch_take ?_ rfl ?_ ?_; rotate_left; (focus (intro u hu; go_simp <;> rfl)); simp only [Act.put, List.setIfInBounds_toArray, List.set_cons_zero, List.set_cons_succ])
                  refine sch_nil ?_
                  go_wp2_with fail
                  go_meet
                  exact ⟨_, _, hs, ps, HM5.out, HG1.out, fun y => Nat.le_succ_of_le (HFW.out y)⟩
                · rw [ge]
                  have HM5 := Lib.hid (HM4.out.below (Below.refl _ w4).drew)
                  clear hown4 hp4 hT4 hnb ht4 g1 ge gb hlen HG HM4
                  go_wp2_with fail
                  refine wp_region_R (R := fun x y => Below x.heap.size x y) (by kernel_rfl) (fun _ => Below.refl _ _) (fun h k => h.trans (k.mono h.size)) (by kernel_rfl) (fun d v c a w h => by cases d <;> exact h)
                    [(0, false), (1, false), (2, false), (3, false), (4, false), (5, false), (6, false), (7, false), (8, false), (9, false), (10, false), (11, false), (12, false), (13, false), (14, false), (15, false), (16, true), (17, false), (18, false), (19, false), (20, false)] rfl (by kernel_rfl) (by kernel_rfl) ?_
                  simp only [sel, List.getElem?_toArray, List.getElem?_cons_succ, List.getElem?_cons_zero]
                  generalize w4.drew = wd at *
                  iterate 10 (refine sch_take ?_ rfl ?_ ?_; rotate_left; (focus (intro u hu; go_simp <;> rfl)); simp only [Act.put, List.setIfInBounds_toArray, List.set_cons_zero, List.set_cons_succ])
                  refine sch_idle rfl ?_
                  simp only [Act.put, List.setIfInBounds_toArray, List.set_cons_zero, List.set_cons_succ]
                  refine sch_idle rfl ?_
                  simp only [Act.put, List.setIfInBounds_toArray, List.set_cons_zero, List.set_cons_succ]
                  refine sch_idle rfl ?_
                  simp only [Act.put, List.setIfInBounds_toArray, List.set_cons_zero, List.set_cons_succ]
                  refine sch_idle rfl ?_
                  simp only [Act.put, List.setIfInBounds_toArray, List.set_cons_zero, List.set_cons_succ]
                  refine sch_idle rfl ?_
                  simp only [Act.put, List.setIfInBounds_toArray, List.set_cons_zero, List.set_cons_succ]
                  refine sch_idle rfl ?_
                  simp only [Act.put, List.setIfInBounds_toArray, List.set_cons_zero, List.set_cons_succ]
                  refine sch_idleC rfl ?_
                  simp only [Act.put, List.setIfInBounds_toArray, List.set_cons_zero, List.set_cons_succ]
                  refine sch_idle rfl ?_
                  simp only [Act.put, List.setIfInBounds_toArray, List.set_cons_zero, List.set_cons_succ]
                  refine sch_idle rfl ?_
                  simp only [Act.put, List.setIfInBounds_toArray, List.set_cons_zero, List.set_cons_succ]
                  iterate 2 (refine sch_take ?_ rfl ?_ ?_; rotate_left; (focus (intro u hu; go_simp <;> rfl)); simp only [Act.put, List.setIfInBounds_toArray, List.set_cons_zero, List.set_cons_succ])
                  refine sch_nil ?_
                  go_wp2_with fail
                  go_meet
                  exact ⟨_, _, hs, ps, HM5.out, HG1.out, fun y => Nat.le_succ_of_le (HFW.out y)⟩
            · as_aux_lemma =>
                go_wp2_with fail
                obtain ⟨g1, g2⟩ := get_t HI.out HXX.out
                have hlen : (getQ P (X : Int)).1.length ≤ 70368744177664 := by rcases g2 with ⟨_, e⟩ | ⟨_, e⟩ <;> rw [e] <;> simp [hasL, rowP_len]
                have HG := Lib.hid (pget_is HM.out.pool (X : Int) hlen)
                have HG1 := Lib.hid g1
                refine HG.out.mono ?_
                rintro e w4 ⟨v4, T4, rfl, hown4, hp4, hT4, hnb, ht4⟩
                have HM4 := Lib.hid (HM.out.call hp4 hT4 ht4)
                rcases g2 with ⟨ge, gb⟩ | ⟨ge, gb⟩
                · rw [gb] at hown4
                  rw [ge]
                  obtain ⟨A4, n4, c4, rfl, N4, hnc4, hcm4⟩ := hown4.byt.form
                  have HX := Lib.hid (show Byt w4.drew (.slice A4 n4 c4) (hasL hs X) from hown4.byt.drew)
                  have HM5 := Lib.hid (HM4.out.below (Below.refl _ w4).drew)
                  have HRX : Hid (∀ w, Calls Try.prog 21 #[.int .u8 ((hs.getD X 0).toNat : Int)] w (Made w (hasL hs X))) := fun w => prow_any w _
                  generalize hasL hs X = hx at *
                  clear hown4 hp4 hT4 hnb ht4 g1 ge gb hlen HG HM4 N4
                  go_wp2_with fail
                  refine wp_region_R (R := fun x y => Below x.heap.size x y) (by kernel_rfl) (fun _ => Below.refl _ _) (fun h k => h.trans (k.mono h.size)) (by kernel_rfl) (fun d v c a w h => by cases d <;> exact h)
                    [(0, false), (1, false), (2, false), (3, false), (4, false), (5, false), (6, false), (7, false), (8, false), (9, false), (10, false), (11, false), (12, false), (13, false), (14, false), (15, false), (16, true), (17, false), (18, false), (19, false), (20, false)] rfl (by kernel_rfl) (by kernel_rfl) ?_
                  simp only [sel, List.getElem?_toArray, List.getElem?_cons_succ, List.getElem?_cons_zero]
                  generalize w4.drew = wd at *
                  iterate 3 (refine sch_take ?_ rfl ?_ ?_; rotate_left; (focus (intro u hu; go_simp <;> rfl)); simp only [Act.put, List.setIfInBounds_toArray, List.set_cons_zero, List.set_cons_succ])
                  refine sch_idle rfl ?_
                  simp only [Act.put, List.setIfInBounds_toArray, List.set_cons_zero, List.set_cons_succ]
                  refine sch_idle rfl ?_
                  simp only [Act.put, List.setIfInBounds_toArray, List.set_cons_zero, List.set_cons_succ]
                  iterate 6 (refine sch_take ?_ rfl ?_ ?_; rotate_left; (focus (intro u hu; go_simp <;> rfl)); simp only [Act.put, List.setIfInBounds_toArray, List.set_cons_zero, List.set_cons_succ])
                  (refine sch_take ?_ rfl ?_ ?_; rotate_left; (focus (intro u hu; have tx := stext_of (HX.out.below hu); clear hu; go_simp <;> rfl)); simp only [Act.put, List.setIfInBounds_toArray, List.set_cons_zero, List.set_cons_succ])
                  iterate 3 (refine sch_take ?_ rfl ?_ ?_; rotate_left; (focus (intro u hu; go_simp <;> rfl)); simp only [Act.put, List.setIfInBounds_toArray, List.set_cons_zero, List.set_cons_succ])
                  (refine sch_take ?_ rfl ?_ ?_; rotate_left; (focus (intro u hu; have cc := ((HM5.out.below hu).cells HXX.out).1; clear hu; go_simp <;> rfl)); simp only [Act.put, List.setIfInBounds_toArray, List.set_cons_zero, List.set_cons_succ])
                  refine sch_call rfl ?_
                  intro K hK
                  go_simp
                  refine (HRX.out _).mono ?_
                  rintro e y5 ⟨vr, rfl, hownr, hbr⟩
                  go_wp2_with fail
                  refine hK _ _ hbr ?_
                  clear hK K
                  have HRR := Lib.hid hownr.byt
                  have HX := Lib.hid (HX.out.below hbr)
                  have HM5 := Lib.hid (HM5.out.below hbr)
                  clear hownr hbr
                  (refine sch_take ?_ rfl ?_ ?_; rotate_left; (focus (intro u hu; have tx := stext_of (HRR.out.below hu); clear hu; go_simp <;> rfl)); simp only [Act.put, List.setIfInBounds_toArray, List.set_cons_zero, List.set_cons_succ])
                  iterate 3 (refine sch_take ?_ rfl ?_ ?_; rotate_left; (focus (intro u hu; go_simp <;> rfl)); simp only [Act.put, List.setIfInBounds_toArray, List.set_cons_zero, List.set_cons_succ])
                  refine sch_nil ?_
                  go_wp2_with fail
                  go_meet
                  exact ⟨_, _, hs, ps, HM5.out, HG1.out, fun y => Nat.le_succ_of_le (HFW.out y)⟩
                · rw [ge]
                  have HM5 := Lib.hid (HM4.out.below (Below.refl _ w4).drew)
                  clear hown4 hp4 hT4 hnb ht4 g1 ge gb hlen HG HM4
                  go_wp2_with fail
                  refine wp_region_R (R := fun x y => Below x.heap.size x y) (by kernel_rfl) (fun _ => Below.refl _ _) (fun h k => h.trans (k.mono h.size)) (by kernel_rfl) (fun d v c a w h => by cases d <;> exact h)
                    [(0, false), (1, false), (2, false), (3, false), (4, false), (5, false), (6, false), (7, false), (8, false), (9, false), (10, false), (11, false), (12, false), (13, false), (14, false), (15, false), (16, true), (17, false), (18, false), (19, false), (20, false)] rfl (by kernel_rfl) (by kernel_rfl) ?_
                  simp only [sel, List.getElem?_toArray, List.getElem?_cons_succ, List.getElem?_cons_zero]
                  generalize w4.drew = wd at *
                  iterate 10 (refine sch_take ?_ rfl ?_ ?_; rotate_left; (focus (intro u hu; go_simp <;> rfl)); simp only [Act.put, List.setIfInBounds_toArray, List.set_cons_zero, List.set_cons_succ])
                  refine sch_idle rfl ?_
                  simp only [Act.put, List.setIfInBounds_toArray, List.set_cons_zero, List.set_cons_succ]
                  refine sch_idle rfl ?_
                  simp only [Act.put, List.setIfInBounds_toArray, List.set_cons_zero, List.set_cons_succ]
                  refine sch_idle rfl ?_
                  simp only [Act.put, List.setIfInBounds_toArray, List.set_cons_zero, List.set_cons_succ]
                  refine sch_idle rfl ?_
                  simp only [Act.put, List.setIfInBounds_toArray, List.set_cons_zero, List.set_cons_succ]
                  refine sch_idle rfl ?_
                  simp only [Act.put, List.setIfInBounds_toArray, List.set_cons_zero, List.set_cons_succ]
                  refine sch_idle rfl ?_
                  simp only [Act.put, List.setIfInBounds_toArray, List.set_cons_zero, List.set_cons_succ]
                  refine sch_idleC rfl ?_
                  simp only [Act.put, List.setIfInBounds_toArray, List.set_cons_zero, List.set_cons_succ]
                  refine sch_idle rfl ?_
                  simp only [Act.put, List.setIfInBounds_toArray, List.set_cons_zero, List.set_cons_succ]
                  refine sch_idle rfl ?_
                  simp only [Act.put, List.setIfInBounds_toArray, List.set_cons_zero, List.set_cons_succ]
                  iterate 2 (refine sch_take ?_ rfl ?_ ?_; rotate_left; (focus (intro u hu; go_simp <;> rfl)); simp only [Act.put, List.setIfInBounds_toArray, List.set_cons_zero, List.set_cons_succ])
                  refine sch_nil ?_
                  go_wp2_with fail
                  go_meet
                  exact ⟨_, _, hs, ps, HM5.out, HG1.out, fun y => Nat.le_succ_of_le (HFW.out y)⟩
            · as_aux_lemma =>
                go_wp2_with fail
                refine (HR.out wr).mono ?_
                rintro e w3 ⟨v3, rfl, hown3, hb3⟩
                have HM3 := Lib.hid (HM.out.below hb3)
                have HN3 : Hid (∀ j, v3.ownBlock = some j → ¬ T j ∧ j < w3.heap.size) := fun j hj => ⟨fun h => by have := (hown3.lt j hj).1; have := HM.out.pool.lt j h; omega, (hown3.lt j hj).2⟩
                have HO3 := Lib.hid hown3.byt
                clear hown3 hb3
                go_wp2_with fail
                have hpt := put_t HI.out HXX.out (rowP_len av)
                refine (pput_is HM3.out.pool (X : Int) v3 _ HO3.out HN3.out).mono ?_
                rintro e w4 ⟨rfl, hp4, ht4⟩
                have HM4 := Lib.hid (HM3.out.call hp4 (fun k hk => hk) ht4)
                clear hp4 ht4
                rcases hpt with ⟨ge, gi⟩ | ⟨ge, gi⟩
                · rw [ge]
                  obtain ⟨d0, d1, f0, f1⟩ := HM4.out.cells HXX.out
                  obtain ⟨_, _, c2⟩ := HAC.out w4 HM4.out.bel
                  have HM5 := Lib.hid (HM4.out.setHas HXX.out av)
                  have hpl : X < hs.length := by rw [HM4.out.hl]; exact HXX.out
                  have HI5 : Hid (TInv n m (hasL (hs.set X av)) (pinsL ps) (putQ P (X : Int) (rowP av)).2) := by rw [hasL_set hpl]; exact gi
                  clear ge gi hpl
                  generalize (putQ P (X : Int) (rowP av)).2 = P4 at *
                  go_wp2_with fail
                  go_meet
                  exact ⟨_, _, _, ps, HM5.out, HI5.out, fun y => Nat.le_succ_of_le (HFW.out y)⟩
                · rw [ge]
                  have HG1 := Lib.hid gi
                  clear ge gi
                  generalize (putQ P (X : Int) (rowP av)).2 = P4 at *
                  go_wp2_with fail
                  go_meet
                  exact ⟨_, _, hs, ps, HM4.out, HG1.out, fun y => Nat.le_succ_of_le (HFW.out y)⟩
            · as_aux_lemma =>
                go_wp2_with fail
                refine (HR.out wr).mono ?_
                rintro e w3 ⟨v3, rfl, hown3, hb3⟩
                have HM3 := Lib.hid (HM.out.below hb3)
                have HN3 : Hid (∀ j, v3.ownBlock = some j → ¬ T j ∧ j < w3.heap.size) := fun j hj => ⟨fun h => by have := (hown3.lt j hj).1; have := HM.out.pool.lt j h; omega, (hown3.lt j hj).2⟩
                have HO3 := Lib.hid hown3.byt
                clear hown3 hb3
                go_wp2_with fail
                have hpt := put_t HI.out HXX.out (rowP_len av)
                refine (pput_is HM3.out.pool (X : Int) v3 _ HO3.out HN3.out).mono ?_
                rintro e w4 ⟨rfl, hp4, ht4⟩
                have HM4 := Lib.hid (HM3.out.call hp4 (fun k hk => hk) ht4)
                clear hp4 ht4
                rcases hpt with ⟨ge, gi⟩ | ⟨ge, gi⟩
                · rw [ge]
                  obtain ⟨d0, d1, f0, f1⟩ := HM4.out.cells HXX.out
                  obtain ⟨_, _, c2⟩ := HAC.out w4 HM4.out.bel
                  have HM5 := Lib.hid (HM4.out.setHas HXX.out av)
                  have hpl : X < hs.length := by rw [HM4.out.hl]; exact HXX.out
                  have HI5 : Hid (TInv n m (hasL (hs.set X av)) (pinsL ps) (putQ P (X : Int) (rowP av)).2) := by rw [hasL_set hpl]; exact gi
                  clear ge gi hpl
                  generalize (putQ P (X : Int) (rowP av)).2 = P4 at *
                  go_wp2_with fail
                  go_meet
                  exact ⟨_, _, _, ps, HM5.out, HI5.out, fun y => Nat.le_succ_of_le (HFW.out y)⟩
                · rw [ge]
                  have HG1 := Lib.hid gi
                  clear ge gi
                  generalize (putQ P (X : Int) (rowP av)).2 = P4 at *
                  go_wp2_with fail
                  go_meet
                  exact ⟨_, _, hs, ps, HM4.out, HG1.out, fun y => Nat.le_succ_of_le (HFW.out y)⟩
            · as_aux_lemma =>
                go_wp2_with fail
                obtain ⟨a1, a2, a3⟩ := fetch_t HI.out HXX.out
                have HG := Lib.hid (ppin_is HM.out.pool (X : Int) (by have := TInv.few a1 HFW.out (fetchQ P (X : Int)).2.1; omega))
                clear a1 a2 a3
                have hpt := pin_t HI.out HXX.out
                refine HG.out.mono ?_
                rintro e w4 ⟨rfl, hp4, ht4⟩
                have HM4 := Lib.hid (HM.out.call hp4 (fun k hk => hk) ht4)
                clear hp4 ht4 HG
                rcases hpt with ⟨ge, gi⟩ | ⟨ge, gi⟩
                · rw [ge]
                  obtain ⟨d0, d1, f0, f1⟩ := HM4.out.cells HXX.out
                  have hq0 : (0 : Int) ≤ ((ps.getD X 0 : Nat) : Int) := by omega
                  have hq1 : ((ps.getD X 0 : Nat) : Int) ≤ 100 := by have := HFW.out X; unfold pinsL at this; omega
                  have HM5 := Lib.hid (HM4.out.setPin HXX.out (ps.getD X 0 + 1))
                  have hpl : X < ps.length := by rw [HM4.out.pl]; exact HXX.out
                  have HI5 : Hid (TInv n m (hasL hs) (pinsL (ps.set X (ps.getD X 0 + 1))) (pinQ P (X : Int)).2) := by rw [pinsL_set hpl]; exact gi
                  have HF5 : Hid (∀ y, pinsL (ps.set X (ps.getD X 0 + 1)) y ≤ k + 1) := fun y => by
                    rw [pinsL_set hpl]
                    unfold upd
                    split
                    · have := HFW.out X; unfold pinsL at this; omega
                    · exact Nat.le_succ_of_le (HFW.out y)
                  have HCS : Hid (((ps.getD X 0 + 1 : Nat) : Int) = ((ps.getD X 0 : Nat) : Int) + 1) := by rw [Hid]; omega
                  generalize (pinQ P (X : Int)).2 = P4 at *
                  generalize hpsx : ps.set X (ps.getD X 0 + 1) = ps5 at *
                  clear ge gi hpl hpsx
                  rw [HCS.out] at HM5
                  generalize ((ps.getD X 0 : Nat) : Int) = q at *
                  go_wp2_with fail
                  go_meet
                  exact ⟨_, _, hs, ps5, HM5.out, HI5.out, HF5.out⟩
                · rw [ge]
                  have HG1 := Lib.hid gi
                  clear ge gi
                  generalize (pinQ P (X : Int)).2 = P4 at *
                  go_wp2_with fail
                  go_meet
                  exact ⟨_, _, hs, ps, HM4.out, HG1.out, fun y => Nat.le_succ_of_le (HFW.out y)⟩
            · as_aux_lemma =>
                go_wp2_with fail
                have hMD := HM.out.below (Below.refl _ wr).drew
                have HMD := Lib.hid hMD
                have CS : Hid (∀ u, Trn T wr.drew u → u.cell? ⟨pb, X, none⟩ = some (.int .i64 ((ps.getD X 0 : Nat) : Int))) := fun u hu => by
                  have hb : u.heap[pb]? = wr.drew.heap[pb]? := hu.block pb hMD.plt (fun e => (hMD.off pb e).2.2 rfl)
                  exact (World.cell?_of_block (a := ⟨pb, X, none⟩) hb).trans (hMD.cells HXX.out).2.1
                have hfx : (P.fr.getD (findF P.fr (X : Int)) zeroF).pins < 4611686018427387904 := by have := HI.out.few HFW.out (findF P.fr (X : Int)); omega
                have HG := Lib.hid (punpin_is HMD.out.pool (X : Int) hfx)
                have hq1 : ps.getD X 0 ≤ 100 := by have := HFW.out X; unfold pinsL at this; omega
                have hpl : X < ps.length := by rw [HM.out.pl]; exact HXX.out
                have hut := unpin_t HI.out HXX.out
                clear hMD hfx
                rcases hut with ⟨g0, ge, gi⟩ | ⟨g0, ge, gi⟩
                · unfold pinsL at g0
                  have hI5 : TInv n m (hasL hs) (pinsL (ps.set X (ps.getD X 0 - 1))) (unpinQ P (X : Int)).2 := by rw [pinsL_set hpl]; exact gi
                  have hF5 : ∀ y, pinsL (ps.set X (ps.getD X 0 - 1)) y ≤ k + 1 := fun y => by
                    rw [pinsL_set hpl]
                    unfold upd
                    split
                    · have := HFW.out X; unfold pinsL at this; omega
                    · exact Nat.le_succ_of_le (HFW.out y)
                  have HSP : Hid (∀ W T P, TMem w W p d fb hb pb n P T hs ps → TMem w (W.setCell ⟨pb, X, none⟩ (.int .i64 ((ps.getD X 0 - 1 : Nat) : Int))) p d fb hb pb n P T hs (ps.set X (ps.getD X 0 - 1))) := fun W T P h => h.setPin HXX.out _
                  have HCL : Hid (∀ W T P, TMem w W p d fb hb pb n P T hs ps → W.cell? ⟨pb, X, none⟩ = some (.int .i64 ((ps.getD X 0 : Nat) : Int)) ∧ W.frozen? ⟨pb, X, none⟩ = false) := fun W T P h => ⟨(h.cells HXX.out).2.1, (h.cells HXX.out).2.2.2⟩
                  have HI5 := Lib.hid hI5
                  have HF5 := Lib.hid hF5
                  have hcs : ((ps.getD X 0 - 1 : Nat) : Int) = ((ps.getD X 0 : Nat) : Int) - 1 := by omega
                  rw [hcs] at HSP
                  generalize ps.set X (ps.getD X 0 - 1) = ps5 at *
                  have hq2 : (0 : Int) < ((ps.getD X 0 : Nat) : Int) := by omega
                  have hq3 : ((ps.getD X 0 : Nat) : Int) ≤ 100 := by omega
                  clear hcs hI5 hF5 g0 gi hpl hq1
                  generalize ((ps.getD X 0 : Nat) : Int) = q at *
                  rcases (show q = 1 ∨ 1 < q by omega) with hq5 | hq5
                  · subst hq5
                    clear hq2 hq3
                    have HGE := Lib.hid ge
                    clear ge
                    generalize unpinQ P (X : Int) = r at *
                    obtain ⟨er, P4⟩ := r
                    refine wp_region_R (R := fun x y => Trn T x y) (by kernel_rfl) (fun _ => Trn.refl _ _) (fun h k => h.trans k (fun _ _ h => h)) (by kernel_rfl) (fun d v c a w h => by cases d <;> exact h)
                      [(0, false), (1, false), (4, false), (5, false), (6, false), (7, false), (8, false), (2, true), (3, false), (9, false)] rfl (by kernel_rfl) (by kernel_rfl) ?_
                    simp only [sel, List.getElem?_toArray, List.getElem?_cons_succ, List.getElem?_cons_zero]
                    generalize wr.drew = wd at *
                    iterate 5 (refine sch_take ?_ rfl ?_ ?_; rotate_left; (focus (intro u hu; go_simp <;> rfl)); simp only [Act.put, List.setIfInBounds_toArray, List.set_cons_zero, List.set_cons_succ])
                    (refine sch_take ?_ rfl ?_ ?_; rotate_left; (focus (intro u hu; have cc := CS.out u hu; clear hu; go_simp <;> rfl)); simp only [Act.put, List.setIfInBounds_toArray, List.set_cons_zero, List.set_cons_succ])
                    (refine sch_take ?_ rfl ?_ ?_; rotate_left; (focus (intro u hu; go_simp <;> rfl)); simp only [Act.put, List.setIfInBounds_toArray, List.set_cons_zero, List.set_cons_succ])
                    refine sch_call rfl ?_
                    intro K hK
                    go_simp
                    refine (HG.out).mono ?_
                    rintro e w4 ⟨rfl, hp4, ht4⟩
                    obtain rfl : er = 0 := HGE.out
                    go_wp2_with fail
                    refine hK _ _ ht4 ?_
                    clear hK K
                    have HM4 := Lib.hid (HMD.out.call hp4 (fun k hk => hk) ht4)
                    clear hp4 ht4
                    iterate 2 (refine sch_take ?_ rfl ?_ ?_; rotate_left; (focus (intro u hu; go_simp <;> rfl)); simp only [Act.put, List.setIfInBounds_toArray, List.set_cons_zero, List.set_cons_succ])
                    refine sch_nil ?_
                    obtain ⟨d1, f1⟩ := HCL.out _ _ _ HM4.out
                    have HM5 := Lib.hid (HSP.out _ _ _ HM4.out)
                    go_wp2_with fail
                    go_meet
                    exact ⟨_, _, hs, ps5, HM5.out, HI5.out, HF5.out⟩
                  · have hq6 : (0 : Int) < q - 1 := by omega
                    have HGE := Lib.hid ge
                    clear ge
                    generalize unpinQ P (X : Int) = r at *
                    obtain ⟨er, P4⟩ := r
                    refine wp_region_R (R := fun x y => Trn T x y) (by kernel_rfl) (fun _ => Trn.refl _ _) (fun h k => h.trans k (fun _ _ h => h)) (by kernel_rfl) (fun d v c a w h => by cases d <;> exact h)
                      [(0, false), (1, false), (4, false), (5, false), (6, false), (7, false), (8, false), (2, true), (3, false), (9, false)] rfl (by kernel_rfl) (by kernel_rfl) ?_
                    simp only [sel, List.getElem?_toArray, List.getElem?_cons_succ, List.getElem?_cons_zero]
                    generalize wr.drew = wd at *
                    iterate 5 (refine sch_take ?_ rfl ?_ ?_; rotate_left; (focus (intro u hu; go_simp <;> rfl)); simp only [Act.put, List.setIfInBounds_toArray, List.set_cons_zero, List.set_cons_succ])
                    (refine sch_take ?_ rfl ?_ ?_; rotate_left; (focus (intro u hu; have cc := CS.out u hu; clear hu; go_simp <;> rfl)); simp only [Act.put, List.setIfInBounds_toArray, List.set_cons_zero, List.set_cons_succ])
                    (refine sch_take ?_ rfl ?_ ?_; rotate_left; (focus (intro u hu; go_simp <;> rfl)); simp only [Act.put, List.setIfInBounds_toArray, List.set_cons_zero, List.set_cons_succ])
                    refine sch_call rfl ?_
                    intro K hK
                    go_simp
                    refine (HG.out).mono ?_
                    rintro e w4 ⟨rfl, hp4, ht4⟩
                    obtain rfl : er = 0 := HGE.out
                    go_wp2_with fail
                    refine hK _ _ ht4 ?_
                    clear hK K
                    have HM4 := Lib.hid (HMD.out.call hp4 (fun k hk => hk) ht4)
                    clear hp4 ht4
                    iterate 2 (refine sch_take ?_ rfl ?_ ?_; rotate_left; (focus (intro u hu; go_simp <;> rfl)); simp only [Act.put, List.setIfInBounds_toArray, List.set_cons_zero, List.set_cons_succ])
                    refine sch_nil ?_
                    obtain ⟨d1, f1⟩ := HCL.out _ _ _ HM4.out
                    have HM5 := Lib.hid (HSP.out _ _ _ HM4.out)
                    go_wp2_with fail
                    go_meet
                    exact ⟨_, _, hs, ps5, HM5.out, HI5.out, HF5.out⟩
                · unfold pinsL at g0
                  rw [g0] at CS
                  have hI5 : TInv n m (hasL hs) (pinsL (ps.set X 0)) (unpinQ P (X : Int)).2 := by
                    have e : pinsL (ps.set X 0) = pinsL ps := by
                      rw [pinsL_set hpl]
                      funext y
                      unfold upd
                      split
                      · rename_i e; rw [e]; exact g0.symm
                      · rfl
                    rw [e]; exact gi
                  have hF5 : ∀ y, pinsL (ps.set X 0) y ≤ k + 1 := fun y => by
                    rw [pinsL_set hpl]
                    unfold upd
                    split
                    · omega
                    · exact Nat.le_succ_of_le (HFW.out y)
                  have HSP : Hid (∀ W T P, TMem w W p d fb hb pb n P T hs ps → TMem w (W.setCell ⟨pb, X, none⟩ (.int .i64 0)) p d fb hb pb n P T hs (ps.set X 0)) := fun W T P h => h.setPin HXX.out 0
                  have HCL : Hid (∀ W T P, TMem w W p d fb hb pb n P T hs ps → W.cell? ⟨pb, X, none⟩ = some (.int .i64 0) ∧ W.frozen? ⟨pb, X, none⟩ = false) := fun W T P h => ⟨by have := (h.cells HXX.out).2.1; rw [g0] at this; exact this, (h.cells HXX.out).2.2.2⟩
                  have HI5 := Lib.hid hI5
                  have HF5 := Lib.hid hF5
                  generalize ps.set X 0 = ps5 at *
                  clear hI5 hF5 g0 gi hpl hq1
                  have HGE := Lib.hid ge
                  clear ge
                  generalize unpinQ P (X : Int) = r at *
                  obtain ⟨er, P4⟩ := r
                  refine wp_region_R (R := fun x y => Trn T x y) (by kernel_rfl) (fun _ => Trn.refl _ _) (fun h k => h.trans k (fun _ _ h => h)) (by kernel_rfl) (fun d v c a w h => by cases d <;> exact h)
                    [(0, false), (1, false), (4, false), (5, false), (6, false), (7, false), (8, false), (2, true), (3, false), (9, false)] rfl (by kernel_rfl) (by kernel_rfl) ?_
                  simp only [sel, List.getElem?_toArray, List.getElem?_cons_succ, List.getElem?_cons_zero]
                  generalize wr.drew = wd at *
                  iterate 5 (refine sch_take ?_ rfl ?_ ?_; rotate_left; (focus (intro u hu; go_simp <;> rfl)); simp only [Act.put, List.setIfInBounds_toArray, List.set_cons_zero, List.set_cons_succ])
                  (refine sch_take ?_ rfl ?_ ?_; rotate_left; (focus (intro u hu; have cc := CS.out u hu; clear hu; go_simp <;> rfl)); simp only [Act.put, List.setIfInBounds_toArray, List.set_cons_zero, List.set_cons_succ])
                  (refine sch_take ?_ rfl ?_ ?_; rotate_left; (focus (intro u hu; go_simp <;> rfl)); simp only [Act.put, List.setIfInBounds_toArray, List.set_cons_zero, List.set_cons_succ])
                  refine sch_call rfl ?_
                  intro K hK
                  go_simp
                  refine (HG.out).mono ?_
                  rintro e w4 ⟨rfl, hp4, ht4⟩
                  obtain rfl : er = 6 := HGE.out
                  go_wp2_with fail
                  refine hK _ _ ht4 ?_
                  clear hK K
                  have HM4 := Lib.hid (HMD.out.call hp4 (fun k hk => hk) ht4)
                  clear hp4 ht4
                  iterate 2 (refine sch_take ?_ rfl ?_ ?_; rotate_left; (focus (intro u hu; go_simp <;> rfl)); simp only [Act.put, List.setIfInBounds_toArray, List.set_cons_zero, List.set_cons_succ])
                  refine sch_nil ?_
                  obtain ⟨d1, f1⟩ := HCL.out _ _ _ HM4.out
                  have HM5 := Lib.hid (HSP.out _ _ _ HM4.out)
                  go_wp2_with fail
                  go_meet
                  exact ⟨_, _, hs, ps5, HM5.out, HI5.out, HF5.out⟩
            · as_aux_lemma =>
                go_wp2_with fail
                refine (HPM.out wr).mono ?_
                rintro e wr9 ⟨rfl, rfl⟩
                go_wp2_with fail
                have het := evict_t HI.out fr9
                refine (pevict_is HM.out.pool fr9).mono ?_
                rintro e w4 ⟨rfl, hp4, ht4⟩
                have HM4 := Lib.hid (HM.out.call hp4 (fun k hk => hk) ht4)
                have HG1 := Lib.hid het
                clear hp4 ht4 het
                generalize evictQ P fr9 = r at *
                go_wp2_with fail
                go_meet
                exact ⟨_, _, hs, ps, HM4.out, HG1.out, fun y => Nat.le_succ_of_le (HFW.out y)⟩
            · as_aux_lemma =>
                go_wp2_with fail
                obtain ⟨g1, g2⟩ := get_t HI.out HXX.out
                have hlen : (getQ P (X : Int)).1.length ≤ 70368744177664 := by rcases g2 with ⟨_, e⟩ | ⟨_, e⟩ <;> rw [e] <;> simp [hasL, rowP_len]
                have HG := Lib.hid (pget_is HM.out.pool (X : Int) hlen)
                have HG1 := Lib.hid g1
                refine HG.out.mono ?_
                rintro e w4 ⟨v4, T4, rfl, hown4, hp4, hT4, hnb, ht4⟩
                have HM4 := Lib.hid (HM.out.call hp4 hT4 ht4)
                rcases g2 with ⟨ge, gb⟩ | ⟨ge, gb⟩
                · rw [gb] at hown4
                  rw [ge]
                  obtain ⟨A4, n4, c4, rfl, N4, hnc4, hcm4⟩ := hown4.byt.form
                  have HX := Lib.hid (show Byt w4.drew (.slice A4 n4 c4) (hasL hs X) from hown4.byt.drew)
                  have HM5 := Lib.hid (HM4.out.below (Below.refl _ w4).drew)
                  have HRX : Hid (∀ w, Calls Try.prog 21 #[.int .u8 ((hs.getD X 0).toNat : Int)] w (Made w (hasL hs X))) := fun w => prow_any w _
                  generalize hasL hs X = hx at *
                  clear hown4 hp4 hT4 hnb ht4 g1 ge gb hlen HG HM4 N4
                  go_wp2_with fail
                  refine wp_region_R (R := fun x y => Below x.heap.size x y) (by kernel_rfl) (fun _ => Below.refl _ _) (fun h k => h.trans (k.mono h.size)) (by kernel_rfl) (fun d v c a w h => by cases d <;> exact h)
                    [(0, false), (1, false), (2, false), (3, false), (4, false), (5, false), (6, false), (7, false), (8, false), (9, false), (10, false), (11, false), (12, false), (13, false), (14, false), (15, false), (16, true), (17, false), (18, false), (19, false), (20, false)] rfl (by kernel_rfl) (by kernel_rfl) ?_
                  simp only [sel, List.getElem?_toArray, List.getElem?_cons_succ, List.getElem?_cons_zero]
                  generalize w4.drew = wd at *
                  iterate 3 (refine sch_take ?_ rfl ?_ ?_; rotate_left; (focus (intro u hu; go_simp <;> rfl)); simp only [Act.put, List.setIfInBounds_toArray, List.set_cons_zero, List.set_cons_succ])
                  refine sch_idle rfl ?_
                  simp only [Act.put, List.setIfInBounds_toArray, List.set_cons_zero, List.set_cons_succ]
                  refine sch_idle rfl ?_
                  simp only [Act.put, List.setIfInBounds_toArray, List.set_cons_zero, List.set_cons_succ]
                  iterate 6 (refine sch_take ?_ rfl ?_ ?_; rotate_left; (focus (intro u hu; go_simp <;> rfl)); simp only [Act.put, List.setIfInBounds_toArray, List.set_cons_zero, List.set_cons_succ])
                  (refine sch_take ?_ rfl ?_ ?_; rotate_left; (focus (intro u hu; have tx := stext_of (HX.out.below hu); clear hu; go_simp <;> rfl)); simp only [Act.put, List.setIfInBounds_toArray, List.set_cons_zero, List.set_cons_succ])
                  iterate 3 (refine sch_take ?_ rfl ?_ ?_; rotate_left; (focus (intro u hu; go_simp <;> rfl)); simp only [Act.put, List.setIfInBounds_toArray, List.set_cons_zero, List.set_cons_succ])
                  (refine sch_take ?_ rfl ?_ ?_; rotate_left; (focus (intro u hu; have cc := ((HM5.out.below hu).cells HXX.out).1; clear hu; go_simp <;> rfl)); simp only [Act.put, List.setIfInBounds_toArray, List.set_cons_zero, List.set_cons_succ])
                  refine sch_call rfl ?_
                  intro K hK
                  go_simp
                  refine (HRX.out _).mono ?_
                  rintro e y5 ⟨vr, rfl, hownr, hbr⟩
                  go_wp2_with fail
                  refine hK _ _ hbr ?_
                  clear hK K
                  have HRR := Lib.hid hownr.byt
                  have HX := Lib.hid (HX.out.below hbr)
                  have HM5 := Lib.hid (HM5.out.below hbr)
                  clear hownr hbr
                  (refine sch_take ?_ rfl ?_ ?_; rotate_left; (focus (intro u hu; have tx := stext_of (HRR.out.below hu); clear hu; go_simp <;> rfl)); simp only [Act.put, List.setIfInBounds_toArray, List.set_cons_zero, List.set_cons_succ])
                  iterate 3 (refine sch_take ?_ rfl ?_ ?_; rotate_left; (focus (intro u hu; go_simp <;> rfl)); simp only [Act.put, List.setIfInBounds_toArray, List.set_cons_zero, List.set_cons_succ])
                  refine sch_nil ?_
                  go_wp2_with fail
                  go_meet
                  exact ⟨_, _, hs, ps, HM5.out, HG1.out, fun y => Nat.le_succ_of_le (HFW.out y)⟩
                · rw [ge]
                  have HM5 := Lib.hid (HM4.out.below (Below.refl _ w4).drew)
                  clear hown4 hp4 hT4 hnb ht4 g1 ge gb hlen HG HM4
                  go_wp2_with fail
                  refine wp_region_R (R := fun x y => Below x.heap.size x y) (by kernel_rfl) (fun _ => Below.refl _ _) (fun h k => h.trans (k.mono h.size)) (by kernel_rfl) (fun d v c a w h => by cases d <;> exact h)
                    [(0, false), (1, false), (2, false), (3, false), (4, false), (5, false), (6, false), (7, false), (8, false), (9, false), (10, false), (11, false), (12, false), (13, false), (14, false), (15, false), (16, true), (17, false), (18, false), (19, false), (20, false)] rfl (by kernel_rfl) (by kernel_rfl) ?_
                  simp only [sel, List.getElem?_toArray, List.getElem?_cons_succ, List.getElem?_cons_zero]
                  generalize w4.drew = wd at *
                  iterate 10 (refine sch_take ?_ rfl ?_ ?_; rotate_left; (focus (intro u hu; go_simp <;> rfl)); simp only [Act.put, List.setIfInBounds_toArray, List.set_cons_zero, List.set_cons_succ])
                  refine sch_idle rfl ?_
                  simp only [Act.put, List.setIfInBounds_toArray, List.set_cons_zero, List.set_cons_succ]
                  refine sch_idle rfl ?_
                  simp only [Act.put, List.setIfInBounds_toArray, List.set_cons_zero, List.set_cons_succ]
                  refine sch_idle rfl ?_
                  simp only [Act.put, List.setIfInBounds_toArray, List.set_cons_zero, List.set_cons_succ]
                  refine sch_idle rfl ?_
                  simp only [Act.put, List.setIfInBounds_toArray, List.set_cons_zero, List.set_cons_succ]
                  refine sch_idle rfl ?_
                  simp only [Act.put, List.setIfInBounds_toArray, List.set_cons_zero, List.set_cons_succ]
                  refine sch_idle rfl ?_
                  simp only [Act.put, List.setIfInBounds_toArray, List.set_cons_zero, List.set_cons_succ]
                  refine sch_idleC rfl ?_
                  simp only [Act.put, List.setIfInBounds_toArray, List.set_cons_zero, List.set_cons_succ]
                  refine sch_idle rfl ?_
                  simp only [Act.put, List.setIfInBounds_toArray, List.set_cons_zero, List.set_cons_succ]
                  refine sch_idle rfl ?_
                  simp only [Act.put, List.setIfInBounds_toArray, List.set_cons_zero, List.set_cons_succ]
                  iterate 2 (refine sch_take ?_ rfl ?_ ?_; rotate_left; (focus (intro u hu; go_simp <;> rfl)); simp only [Act.put, List.setIfInBounds_toArray, List.set_cons_zero, List.set_cons_succ])
                  refine sch_nil ?_
                  go_wp2_with fail
                  go_meet
                  exact ⟨_, _, hs, ps, HM5.out, HG1.out, fun y => Nat.le_succ_of_le (HFW.out y)⟩
            · as_aux_lemma =>
                go_wp2_with fail
                obtain ⟨e0, het, _⟩ := cleanQ_t HI.out
                refine (pclean_is HM.out.pool).mono ?_
                rintro e w4 ⟨rfl, hp4, ht4⟩
                rw [e0]
                have HM4 := Lib.hid (HM.out.call hp4 (fun k hk => hk) ht4)
                have HG1 := Lib.hid het
                clear hp4 ht4 het e0
                generalize cleanQ P = r at *
                go_wp2_with fail
                go_meet
                exact ⟨_, _, hs, ps, HM4.out, HG1.out, fun y => Nat.le_succ_of_le (HFW.out y)⟩
          case rest =>
            obtain ⟨P5, T5, hs5, ps5, hm5, hi5, hf5⟩ := hcut
            have HM5 := Lib.hid hm5
            have HI5 := Lib.hid hi5
            have HF5 := Lib.hid hf5
            have HLP : Hid (P5.fr.length = m) := hi5.len
            have HM20 : Hid (n ≤ 20 ∧ m ≤ 15) := ⟨HN1.out.2, HM1.out.2⟩
            clear hm5 hi5 hf5 HM HI HFW HPX HP9 HPM HR H9 HAC c0 c1 c2 hxn
            go_wp2_with fail
            refine (pframes_is HM5.out.pool).mono ?_
            rintro e w5 ⟨gf, rfl, hblk, hgf, hb5⟩
            have HA := Lib.hid hblk
            have HM6 := Lib.hid (HM5.out.below hb5)
            have MI := makeInts n (by have := HN1.out; omega) (n : Int) rfl
            rw [HLP.out]
            have HGL : Hid (gf < w5.heap.size) := (Array.getElem?_eq_some_iff.1 hblk).1
            clear hblk hgf hb5 HM5
            go_wp2_with fail
            go_loopw [20] (fun i wr => HeldR w5 P5.fr n i wr) (fun i _ => m - (intOf i).toNat)
            case atStart => exact ⟨0, by rw [HLP.out]; omega, rfl, held_start w5 P5.fr n (by have := HM20.out; omega), (below_new w5 _)⟩
            case round =>
              obtain ⟨j, hj, rfl, hown, hbel⟩ := hrel
              rw [HLP.out] at hj
              have HO := Lib.hid hown
              have HB := Lib.hid hbel
              clear hown hbel MI
              by_cases hjm : j < m
              · have hjn : (j : Int) < (m : Int) := by omega
                have hj15 : (j : Int) < 15 := by have := HM20.out; omega
                have hjl : j < P5.fr.length := by rw [HLP.out]; exact hjm
                have hA2 : ABlkF wr gf P5.fr := (HB.out.block gf HGL.out).trans HA.out
                obtain ⟨e0, e1, e2⟩ := told_at hA2 hjl
                have hnx := heldI_next n P5.fr j hjl
                cases his : (P5.fr.getD j zeroF).is
                · rw [his] at e0
                  have HNX : Hid (heldI n P5.fr (j + 1) = heldI n P5.fr j) := by rw [Hid, hnx]; unfold addF; rw [his]; rfl
                  clear hnx his hA2 e1 e2
                  go_wp2_with fail
                  go_roundw
                  case rel => exact ⟨j + 1, by rw [HLP.out]; omega, by go_num, by rw [HNX.out]; exact HO.out, HB.out⟩
                  case measure => simp [intOf]; omega
                · rw [his] at e0
                  obtain ⟨y, hy, hpg, hpn, hz⟩ := held_zero HI5.out hjm his
                  rw [hpg] at e1
                  have HNX : Hid (heldI n P5.fr (j + 1) = (heldI n P5.fr j).set y (P5.fr.getD j zeroF).pins) := by
                    rw [Hid, hnx]
                    unfold addF
                    rw [if_pos his, hpg, Int.toNat_natCast, hz, Nat.zero_add]
                  have hhl := heldI_len n P5.fr j (by omega)
                  have hcy : wr.cell? ⟨w5.heap.size, y, none⟩ = some (.int .i64 0) := by
                    rw [HO.out.cellAt y (by rw [Nat.mul_one]; exact hy)]
                    have : y < (heldI n P5.fr j).length := by rw [hhl]; exact hy
                    simp [inz, this] at hz ⊢
                    exact hz
                  have hfy := HO.out.frozenAt y
                  have hpl := HI5.out.few HF5.out j
                  have HST := Lib.hid (HO.out.stored y (.int .i64 ((P5.fr.getD j zeroF).pins : Int))).1
                  have HIS : Hid ((inz (heldI n P5.fr j)).set y (.int .i64 ((P5.fr.getD j zeroF).pins : Int)) = inz ((heldI n P5.fr j).set y (P5.fr.getD j zeroF).pins)) := by rw [Hid]; simp [inz, List.map_set]
                  have hyn : (y : Int) < (n : Int) := by omega
                  clear hnx his hz hpg hpn hhl hA2
                  generalize (heldI n P5.fr j).set y (P5.fr.getD j zeroF).pins = hn3 at *
                  have hq1 : ((P5.fr.getD j zeroF).pins : Int) ≤ 101 := by omega
                  have hq0 : (0 : Int) ≤ ((P5.fr.getD j zeroF).pins : Int) := by omega
                  clear hpl
                  generalize ((P5.fr.getD j zeroF).pins : Int) = q at *
                  have HSTD : Hid ((wr.drew.setCell ⟨w5.heap.size, y, none⟩ (.int .i64 q)).ownsRow 0 3 1 (.slice (some ⟨w5.heap.size, 0, none⟩) n n) n (inz hn3)) := by rw [← HIS.out]; exact HST.out
                  have HBD : Hid (Below w5.heap.size w5 (wr.drew.setCell ⟨w5.heap.size, y, none⟩ (.int .i64 q))) := HB.out.drew.setCell (p := ⟨w5.heap.size, y, none⟩) (Nat.le_refl _) _
                  have G1 := Lib.hid (show wr.drew.cell? ⟨gf, j * 5 + 1, none⟩ = some (.int .i64 (y : Int)) from e1)
                  have G2 := Lib.hid (show wr.drew.cell? ⟨gf, j * 5 + 2, none⟩ = some (.int .i64 q) from e2)
                  have G3 := Lib.hid (show wr.drew.cell? ⟨w5.heap.size, y, none⟩ = some (.int .i64 0) from hcy)
                  have G4 := Lib.hid (show wr.drew.frozen? ⟨w5.heap.size, y, none⟩ = false from hfy)
                  clear e1 e2 hcy hfy HST HIS HO HB
                  go_wp2_with fail
                  refine wp_region_T (R := fun x y => x = y) (by kernel_rfl) (fun _ => rfl) (fun h k => h.trans k) (by kernel_rfl) 21 rfl (by kernel_rfl) (by kernel_rfl) (fun d v c a w h => by cases d <;> exact h)
                    [(0, false), (1, false), (2, false), (3, false), (4, false), (5, false), (6, false), (7, false), (8, false), (9, false), (10, false), (11, false), (12, false), (13, false), (14, false), (15, false), (16, false), (17, false), (18, false), (19, false), (20, false)] rfl (by kernel_rfl) ?_
                  simp only [sel, List.getElem?_toArray, List.getElem?_cons_succ, List.getElem?_cons_zero]
                  generalize wr.drew = wd at *
                  iterate 5 (refine schT_take ?_ rfl ?_ ?_; rotate_left; (focus (intro u hu; go_simp <;> rfl)); simp only [Act.put, List.setIfInBounds_toArray, List.set_cons_zero, List.set_cons_succ])
                  (refine schT_take ?_ rfl ?_ ?_; rotate_left; (focus (intro u hu; subst hu; have c1 := G1.out; go_simp <;> rfl)); simp only [Act.put, List.setIfInBounds_toArray, List.set_cons_zero, List.set_cons_succ])
                  iterate 5 (refine schT_take ?_ rfl ?_ ?_; rotate_left; (focus (intro u hu; go_simp <;> rfl)); simp only [Act.put, List.setIfInBounds_toArray, List.set_cons_zero, List.set_cons_succ])
                  (refine schT_take ?_ rfl ?_ ?_; rotate_left; (focus (intro u hu; subst hu; have c1 := G1.out; go_simp <;> rfl)); simp only [Act.put, List.setIfInBounds_toArray, List.set_cons_zero, List.set_cons_succ])
                  (refine schT_take ?_ rfl ?_ ?_; rotate_left; (focus (intro u hu; go_simp <;> rfl)); simp only [Act.put, List.setIfInBounds_toArray, List.set_cons_zero, List.set_cons_succ])
                  (refine schT_take ?_ rfl ?_ ?_; rotate_left; (focus (intro u hu; subst hu; have c1 := G3.out; go_simp <;> rfl)); simp only [Act.put, List.setIfInBounds_toArray, List.set_cons_zero, List.set_cons_succ])
                  iterate 4 (refine schT_take ?_ rfl ?_ ?_; rotate_left; (focus (intro u hu; go_simp <;> rfl)); simp only [Act.put, List.setIfInBounds_toArray, List.set_cons_zero, List.set_cons_succ])
                  (refine schT_take ?_ rfl ?_ ?_; rotate_left; (focus (intro u hu; subst hu; have c1 := G2.out; go_simp <;> rfl)); simp only [Act.put, List.setIfInBounds_toArray, List.set_cons_zero, List.set_cons_succ])
                  iterate 2 (refine schT_take ?_ rfl ?_ ?_; rotate_left; (focus (intro u hu; go_simp <;> rfl)); simp only [Act.put, List.setIfInBounds_toArray, List.set_cons_zero, List.set_cons_succ])
                  refine schT_nil ?_
                  refine schT_last rfl rfl ?_
                  have c3 := G3.out
                  have c4 := G4.out
                  go_wp2_with fail
                  go_roundw
                  case rel => exact ⟨j + 1, by rw [HLP.out]; omega, by go_num, by rw [HNX.out]; exact HSTD.out, HBD.out⟩
                  case measure => simp [intOf]; omega
              · obtain rfl : j = m := by omega
                have hfin := held_all (P := P5) (has := hasL hs5) (ps := ps5) HI5.out HM6.out.pl
                have HK := Lib.hid (kints_any wr (.slice (some ⟨w5.heap.size, 0, none⟩) n n) (.slice (some ⟨pb, 0, none⟩) n n) ps5 ps5 (by have := ints_rowz HO.out; rw [hfin] at this; exact this) (ints_rowz (HM6.out.below HB.out).pown))
                have HM7 := Lib.hid (HM6.out.below HB.out)
                have HDE : Hid (decide (ps5 = ps5) = true) := decide_eq_true rfl
                rw [HDE.out] at HK
                clear hfin
                go_wp2_with fail
                refine HK.out.mono ?_
                rintro e w8 ⟨rfl, hb8⟩
                have HM8 := Lib.hid (HM7.out.below hb8)
                clear hb8
                go_wp2_with fail
                go_roundw
                case rel => exact ⟨k + 1, by omega, by go_num, P5, T5, hs5, ps5, HM8.out, HI5.out, HF5.out⟩
                case measure => simp [intOf]; omega
        · obtain rfl : k = N := by omega
          obtain ⟨z0, z1, z2, z3⟩ := flush_t HI.out
          have HFL := Lib.hid (pflush_is HM.out.pool)
          go_wp2_with fail
          refine HFL.out.mono ?_
          rintro e w4 ⟨rfl, hp4, ht4⟩
          rw [z0]
          have HM4 := Lib.hid (HM.out.call hp4 (fun k hk => hk) ht4)
          clear hp4 ht4 HFL z0
          generalize (flushQ P).2 = P4 at *
          have HZ1 := Lib.hid z1
          have HZ2 := Lib.hid z2
          have HZ3 := Lib.hid z3
          clear z1 z2 z3 HI HFW HM
          go_wp2_with fail
          obtain ⟨S4, hd4, _⟩ := pat_disk HM4.out.pool
          refine (image_is w4 S4 d P4.s hd4).mono ?_
          rintro e w5 ⟨v5, rfl, hown5, hb5⟩
          obtain ⟨A5, n5, c5, rfl, N5, hnc5, hcm5⟩ := hown5.byt.form
          have HBY := Lib.hid hown5.byt
          have HM5 := Lib.hid (HM4.out.below hb5)
          have HN5 : Hid (n5 = 4096 * n) := N5.out.trans HZ3.out
          clear hown5 hb5 hd4 N5 HM4
          go_wp2_with fail
          go_loopw [22] (fun i wr => ImgR w5 n i wr) (fun i _ => n - (intOf i).toNat)
          case atStart => exact ⟨0, by omega, rfl, Below.refl _ _⟩
          case round =>
            obtain ⟨j, hj, rfl, hbel⟩ := hrel
            have HB := Lib.hid hbel
            clear hbel
            by_cases hjn : j < n
            · have hjn' : (j : Int) < (n : Int) := by omega
              have hj20 : (j : Int) < 20 := by have := HN1.out; omega
              obtain ⟨A6, n6, c6, hcut, hby6, _⟩ := Byt.midrunO HBY.out (4096 * j) (4096 * j + 4096) (by omega) (by have := HN5.out; omega)
              rw [show ((4096 * j : Nat) : Int) = (j : Int) * 4096 by omega, show ((4096 * j + 4096 : Nat) : Int) = ((j : Int) + 1) * 4096 by omega] at hcut
              rw [show 4096 * j + 4096 - 4096 * j = 4096 by omega, HZ1.out j hjn] at hby6
              have HX := Lib.hid (show Byt wr.drew (.slice A6 n6 c6) (hasL hs j) from (hby6.below HB.out).drew)
              have HMD := Lib.hid ((HM5.out.below HB.out).below (Below.refl _ wr).drew)
              have HWD : Hid (Below w5.heap.size w5 wr.drew) := HB.out.drew
              have HRX : Hid (∀ w, Calls Try.prog 21 #[.int .u8 ((hs.getD j 0).toNat : Int)] w (Made w (hasL hs j))) := fun w => prow_any w _
              have HJN := Lib.hid hjn
              have hw1 : IntKind.i64.wrap ((j : Int) * 4096) = (j : Int) * 4096 := by rw [IntKind.wrap_i64]; omega
              have hw2 : IntKind.i64.wrap ((j : Int) + 1) = (j : Int) + 1 := by rw [IntKind.wrap_i64]; omega
              have hw3 : IntKind.i64.wrap (((j : Int) + 1) * 4096) = ((j : Int) + 1) * 4096 := by rw [IntKind.wrap_i64]; omega
              clear hby6 hjn
              generalize hasL hs j = hx at *
              go_wp2_with fail
              refine wp_region_R (R := fun x y => Below x.heap.size x y) (by kernel_rfl) (fun _ => Below.refl _ _) (fun h k => h.trans (k.mono h.size)) (by kernel_rfl) (fun d v c a w h => by cases d <;> exact h)
                [(0, false), (1, false), (2, false), (3, false), (4, false), (5, false), (6, false), (7, false), (8, false), (9, false), (10, false), (11, false), (12, true), (13, false), (14, false)] rfl (by kernel_rfl) (by kernel_rfl) ?_
              simp only [sel, List.getElem?_toArray, List.getElem?_cons_succ, List.getElem?_cons_zero]
              generalize wr.drew = wd at *
              iterate 7 (refine sch_take ?_ rfl ?_ ?_; rotate_left; (focus (intro u hu; go_simp <;> rfl)); simp only [Act.put, List.setIfInBounds_toArray, List.set_cons_zero, List.set_cons_succ])
              (refine sch_take ?_ rfl ?_ ?_; rotate_left; (focus (intro u hu; have tx := stext_of (HX.out.below hu); clear hu; go_simp <;> rfl)); simp only [Act.put, List.setIfInBounds_toArray, List.set_cons_zero, List.set_cons_succ])
              iterate 3 (refine sch_take ?_ rfl ?_ ?_; rotate_left; (focus (intro u hu; go_simp <;> rfl)); simp only [Act.put, List.setIfInBounds_toArray, List.set_cons_zero, List.set_cons_succ])
              (refine sch_take ?_ rfl ?_ ?_; rotate_left; (focus (intro u hu; have cc := ((HMD.out.below hu).cells HJN.out).1; clear hu; go_simp <;> rfl)); simp only [Act.put, List.setIfInBounds_toArray, List.set_cons_zero, List.set_cons_succ])
              refine sch_call rfl ?_
              intro K hK
              go_simp
              refine (HRX.out _).mono ?_
              rintro e y5 ⟨vr, rfl, hownr, hbr⟩
              go_wp2_with fail
              refine hK _ _ hbr ?_
              clear hK K
              have HRR := Lib.hid hownr.byt
              have HX := Lib.hid (HX.out.below hbr)
              have HWD := Lib.hid (HWD.out.trans (hbr.mono HWD.out.size))
              clear hownr hbr
              (refine sch_take ?_ rfl ?_ ?_; rotate_left; (focus (intro u hu; have tx := stext_of (HRR.out.below hu); clear hu; go_simp <;> rfl)); simp only [Act.put, List.setIfInBounds_toArray, List.set_cons_zero, List.set_cons_succ])
              (refine sch_take ?_ rfl ?_ ?_; rotate_left; (focus (intro u hu; go_simp <;> rfl)); simp only [Act.put, List.setIfInBounds_toArray, List.set_cons_zero, List.set_cons_succ])
              refine sch_nil ?_
              go_wp2_with fail
              go_roundw
              case rel => exact ⟨j + 1, by have := HJN.out; omega, by go_num, HWD.out⟩
              case measure => have := HJN.out; simp [intOf]; omega
            · obtain rfl : j = n := by omega
              obtain ⟨S6, hd6, _⟩ := pat_disk (HM5.out.below HB.out).pool
              have HD6 := Lib.hid hd6
              have HBL : Hid (Below w.heap.size w wr) := (HM5.out.below HB.out).bel
              clear hd6
              go_wp2_with fail
              refine (cached_is wr S6 d P4.s HD6.out).mono ?_
              rintro e w7 ⟨v7, rfl, hown7, hb7⟩
              rw [HZ2.out] at hown7
              obtain ⟨A7, n7, c7, rfl, N7, hnc7, hcm7⟩ := (ints_rowz hown7).form
              obtain rfl : n7 = 0 := N7.out
              have HB7 : Hid (Below w.heap.size w w7) := HBL.out.trans (hb7.mono HBL.out.size)
              clear hown7 hb7 N7
              go_wp2_with fail
              go_ret
              exact ⟨rfl, HB7.out⟩

set_option maxRecDepth 100000 in
theorem lifted (os : Os) (started : os.Started) (H : Type) (enc : TypeId × Value → H) :
    ReturnsInHanded {} Try.checked os 5 .any (Rows.poolTellsSpec.pre6 enc Try.prog Try.f5 Rows.poolTellsRow.domain false) (Rows.poolTellsSpec.post enc Try.prog Try.f5 false true false false) := by
  refine returnsInHanded_of_change (C := Try.checked) ownKnobs started (by kernel_rfl) Try.func5
    (ChangeSpec.witness6 (enc := enc) (C := Try.checked) false ⟨#[], #[.int .i64 0, .int .i64 0, .slice none 0 0], []⟩ 8 (by kernel_rfl) (by kernel_rfl) (by kernel_rfl) (by kernel_rfl)) ?_
  intro W base args ds gs before hval0 hW hcnd _
  have hval : ∀ (j : Nat) t v, Try.f5.params[j]? = some t → args[j]? = some v → Value.okWide Try.prog W .any base t v := hval0
  have hW' := hW
  obtain ⟨p, q, hA0, hV, rfl, hfz, hnd⟩ := hW
  have hA : DataW.TrodAll enc Try.prog W 0 (fun _ => true) true Try.f5.params.toList args.toList ds p := hA0
  rw [Try.params5] at hA hval
  obtain ⟨v0, vs0, d0, ds0, p0, q0, hargs, rfl, rfl, h0, r0⟩ := trodAll_cons hA
  obtain ⟨v1, vs1, d1, ds1, p1, q1, rfl, rfl, rfl, h1, r1⟩ := trodAll_cons r0
  obtain ⟨v2, vs2, d2, ds2, p2, q2, rfl, rfl, rfl, h2, r2⟩ := trodAll_cons r1
  obtain ⟨rfl, rfl, rfl⟩ := trodAll_nil r2
  obtain rfl : args = #[v0, v1, v2] := by cases args; simp_all
  obtain ⟨rfl, rfl⟩ := trodVars_none hV
  obtain ⟨a0, rfl, rfl, rfl, w0⟩ := open_int Try.underlying3 (hval 0 3 v0 rfl rfl) h0
  have b0 := open_i64 w0
  obtain ⟨a1, rfl, rfl, rfl, w1⟩ := open_int Try.underlying3 (hval 1 3 v1 rfl rfl) h1
  have b1 := open_i64 w1
  have k2 := h2
  have lt2 : ∀ x ∈ p2, x.block < W.heap.size := by obtain ⟨m, hm⟩ := k2; exact DataW.trod_lt m _ _ _ hm
  obtain ⟨l2, f2, b2⟩ := open_acts7 (hval 2 39 v2 rfl rfl) h2
  clear hA0 hval0
  refine (walk W a0 a1 v2 l2 f2 b0 b1 b2).mono fun e W' ⟨he, bel⟩ => ?_
  subst he
  exact ⟨_, rfl, _, _, _, [], _, [], hW', trodAll_mk1 (shut_bool Try.underlying4 _), (trodAll_cons_mk (shut_int Try.underlying3 w0) (trodAll_cons_mk (shut_int Try.underlying3 w1) (trodAll_cons_mk (Below.trod laidOuts (by kernel_rfl) (of_decide_eq_true (by kernel_rfl)) k2 bel lt2) trodAll_mk0))), rfl, bel.frame _, fun h => by cases h⟩

theorem over : Rows.poolTellsRow.holds Try.pinned (OpenSpec.ofChange Rows.poolTellsSpec) :=
  OpenClaim.holds_of_wide 5 Try.f5 rfl rfl rfl rfl rfl rfl rfl ⟨rfl, rfl, rfl, rfl, rfl⟩ rfl rfl rfl rfl rfl (by kernel_rfl) Try.func5 (by kernel_rfl)
    (of_decide_eq_true (by kernel_rfl)) (by unfold Func.isWrapper; first | (rw [if_pos (by decide +kernel)]; kernel_rfl) | (rw [if_neg (by decide +kernel)]; exact ⟨rfl, rfl⟩))
    (fun os started H enc _ => lifted os started H enc)

theorem proved : Rows.PoolTellsSaid := over
#print axioms proved
end Go.Proofs.Ytmfcckmcbmlhmaa.poolTells

