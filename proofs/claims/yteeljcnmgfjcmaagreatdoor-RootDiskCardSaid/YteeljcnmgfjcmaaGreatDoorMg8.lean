/-
  The texts PgR, RtA, RtB, RtC, RtD, RtE, RtF, RtG, RtH in one. Conditions: as each part says.
-/
import Derived.Test.YteeljcnmgfjcmaaGreatDoorMg7
import Derived.Test.YteeljcnmgfjcmaaGreatDoorMg4
import Derived.Test.YteeljcnmgfjcmaaGreatDoorMg5
import Derived.Test.YteeljcnmgfjcmaaGreatDoorMg2
import Derived.DeepKeys
import Derived.Laws.StructEq
import Derived.Deep.WholeRow
import Derived.LoopN
/-
  The document's pages over sectors (tallymanref05): Pages, Load, Save by their contracts. Conditions: none but that the disk and the bytes lie there, apart.
-/
namespace Go.Proofs.YteeljcnmgfjcmaaGreatDoor
open Go.RowKit Go.Maps
set_option maxRecDepth 100000

theorem r5pages_is (w : World) (S : Nat → Prop) (g : Nat) (s : St) (h : Ref w S g s) :
    Calls Tryz.prog 25 #[.pointer (some ⟨g, 0, none⟩)] w fun e w' => e = .returned (.int .i64 ((secs s / 8 : Nat) : Int)) ∧ w = w' := by
  have H := Lib.hid (rsectors_is w S g s h)
  have hfew : secs s ≤ 32768 := h.ok.few
  clear h
  generalize secs s = k at *
  have hw : IntKind.i64.wrap ((k : Int) / 8) = ((k / 8 : Nat) : Int) := by rw [IntKind.wrap_i64]; omega
  go_enter Tryz.func25, Tryz.ntmps25
  go_wp2_with fail
  refine H.out.mono ?_
  rintro e w1 ⟨rfl, rfl⟩
  go_wp2_with fail
  go_ret
  exact ⟨ret_int (by first | omega | rw [hw]), rfl⟩
def RLoadRel (w : World) (S : Nat → Prop) (g n : Nat) (s : St) (v i : Value) (wr : World) : Prop :=
  ∃ (k : Nat) (s' : St) (acc : List UInt8), k ≤ 8 ∧ i = .int .i64 (k : Int) ∧ Own wr w.heap.size 5 v acc ∧ acc.length = 512 * k ∧ Ref wr S g s' ∧ secs s' = secs s ∧ loadI n 8 s [] = loadI n (8 - k) s' acc ∧ Trn S w wr
set_option maxRecDepth 100000 in
set_option maxHeartbeats 2000000 in
theorem r5load_is (w : World) (S : Nat → Prop) (g : Nat) (s : St) (x : Int) (h : Ref w S g s) :
    Calls Tryz.prog 31 #[.pointer (some ⟨g, 0, none⟩), .int .i64 x] w (RRed w S g (loadP s x)) := by
  obtain ⟨i0, hi0, hz0, hz1, hz2⟩ := info_parts uinfo
  have HP := Lib.hid (r5pages_is w S g s h)
  have H := Lib.hid h
  have HLT := Lib.hid h.lt
  have hfew := h.ok.few
  clear h
  by_cases hx : 0 ≤ x ∧ x < ((secs s / 8 : Nat) : Int)
  · obtain ⟨n, hxn⟩ := Int.eq_ofNat_of_zero_le hx.1
    have hn : n < secs s / 8 := by omega
    have hp : loadP s x = loadI n 8 s [] := by unfold loadP; rw [if_pos hx, hxn, Int.toNat_natCast]
    rw [hp]
    have HN := Lib.hid hn
    have HXN := Lib.hid hxn
    obtain ⟨h0, h1⟩ := hx
    have hx4 : x < 4096 := by omega
    clear hp hfew hxn hn
    generalize hQ : loadI n 8 s [] = r
    have HQ := Lib.hid hQ
    clear hQ
    generalize hsd : secs s / 8 = sd at *
    have HSD := Lib.hid hsd
    clear hsd
    go_enter Tryz.func31, Tryz.ntmps31
    go_wp2_with fail
    refine HP.out.mono ?_
    rintro e w1 ⟨rfl, rfl⟩
    go_wp2_with fail
    go_loopw [6, 7] (fun v i wr => RLoadRel w S g n s v i wr) (fun _ i _ => 8 - (intOf i).toNat)
    case atStart => exact ⟨0, s, [], by omega, rfl, World.ownsRow_nil _ _ _ 1, rfl, H.out, rfl, rfl, Trn.refl _ _⟩
    case round =>
      obtain ⟨k, s', acc, hk, rfl, hown, hlen, href, hsec, hrest, htr⟩ := hrel
      have HO := Lib.hid hown
      have HLE := Lib.hid hlen
      have HR := Lib.hid href
      have HSE := Lib.hid hsec
      have HRE := Lib.hid hrest
      have HT := Lib.hid htr
      obtain ⟨Av, nv, cv, rfl, Nv, hncv, hcmv⟩ := hown.byt.form
      clear hown hlen href hsec hrest htr
      by_cases hlt : k < 8
      · have ha : 8 * n + k < secs s' := by have := HSE.out; have := HSD.out; have := HN.out; omega
        have hri := readR_in HR.out.ok ha
        have hnx := loadI_next (n := n) hlt s' acc
        have CS := Lib.hid (rread_is wr S g s' ((8 * n + k : Nat) : Int) HR.out)
        generalize readR s' ((8 * n + k : Nat) : Int) = q at *
        rw [show ((8 * n + k : Nat) : Int) = 8 * x + (k : Int) by have := HXN.out; omega] at CS
        have HRI := Lib.hid hri
        have HNX := Lib.hid hnx
        clear hri hnx ha
        go_wp2_with fail
        refine CS.out.mono ?_
        rintro e w2 ⟨v2, rfl, hown2, href2, ht2⟩
        have HO2 := Lib.hid hown2
        have HR2 := Lib.hid href2
        have HT2 := Lib.hid ht2
        have HOV : Hid (Own w2 w.heap.size 5 (.slice Av nv cv) acc) := own_trn HO.out ht2 (fun j e hs => by have := (World.ownsRow.lt HO.out j e).1; have := HLT.out j hs; omega)
        obtain ⟨A2, n2, c2, rfl, N2, hnc2, hcm2⟩ := hown2.byt.form
        clear hown2 href2 ht2
        by_cases e0 : q.2.1 = 0
        · have HL2 := Lib.hid (HRI.out.1 e0)
          have HNN := Lib.hid (HNX.out.trans (if_pos e0))
          have hz : ((q.2.1 : Nat) : Int) = 0 := by omega
          have HE0 := Lib.hid e0
          clear e0
          rw [hz]
          clear hz
          go_wp2_with (at_builtin; refine wpList_app _ rfl (.tmp 34) (.tmp 35) _ rfl w.heap.size 5 i0 _ Tryz.underlying50 hi0 hz0 hz1 hz2 rfl _ _ rfl HOV.out _ q.1 rfl HO2.out.byt (by have := HL2.out; have := HLE.out; omega) (Nat.le_trans HT.out.size HT2.out.size) ?_; intro v3 w3 hown3 hg3 hat3)
          have ht3 : Trn (fun j => (Value.slice Av nv cv).ownBlock = some j) w2 w3 := Trn.of_grown hg3 (fun j e => e)
          have HO3 := Lib.hid hown3
          have HR3 : Hid (Ref w3 S g q.2.2) := HR2.out.trn ht3 (fun j hs e => by have := (World.ownsRow.lt HOV.out j e).1; have := HLT.out j hs; omega)
          have HT3 : Hid (Trn S w w3) := (HT.out.trans HT2.out (fun _ _ h => h)).trans ht3 (fun j hj e => by have := (World.ownsRow.lt HOV.out j e).1; omega)
          clear hown3 hg3 hat3 ht3
          go_roundw
          case rel =>
            refine ⟨k + 1, q.2.2, acc ++ q.1, by omega, by go_num, HO3.out, ?_, HR3.out, HRI.out.2.2.2.1.trans HSE.out, HRE.out.trans HNN.out, HT3.out⟩
            rw [List.length_append, HLE.out, HL2.out]; omega
          case measure => simp [intOf]; omega
        · have hne : (((q.2.1 : Nat) : Int) != 0) = true := by simp only [bne, beq_eq_false_iff_ne, Bool.not_eq_true', ne_eq]; omega
          have HNN := Lib.hid (HNX.out.trans (if_neg e0))
          clear e0
          go_wp2_with fail
          go_ret2
          rw [← HQ.out, HRE.out, HNN.out]
          exact ⟨_, rfl, World.ownsRow_nil _ _ _ 1, HR2.out, HT.out.trans HT2.out (fun _ _ h => h)⟩
      · obtain rfl : k = 8 := by omega
        go_wp2_with fail
        go_ret2
        have hr := HRE.out
        rw [Nat.sub_self, loadI] at hr
        rw [← HQ.out, hr]
        exact ⟨_, rfl, HO.out, HR.out, HT.out⟩
  · have hp : loadP s x = ([], 2, s) := by unfold loadP; rw [if_neg hx]
    rw [hp]
    by_cases h0 : x < 0
    · clear hx
      go_enter Tryz.func31, Tryz.ntmps31
      go_wp2_with fail
      go_ret2
      exact ⟨_, rfl, World.ownsRow_nil _ _ _ 1, H.out, Trn.refl _ _⟩
    · have hge : ((secs s / 8 : Nat) : Int) ≤ x := by omega
      clear hx hfew hp
      generalize secs s / 8 = sd at *
      go_enter Tryz.func31, Tryz.ntmps31
      go_wp2_with fail
      refine HP.out.mono ?_
      rintro e w1 ⟨rfl, rfl⟩
      go_wp2_with fail
      go_ret2
      exact ⟨_, rfl, World.ownsRow_nil _ _ _ 1, H.out, Trn.refl _ _⟩
def RSaveRel (w : World) (S : Nat → Prop) (g n : Nat) (s : St) (v : Value) (b : List UInt8) (i : Value) (wr : World) : Prop :=
  ∃ (k : Nat) (s' : St) (S' : Nat → Prop), k ≤ 8 ∧ i = .int .i64 (k : Int) ∧ Ref wr S' g s' ∧ (∀ j, S' j → S j ∨ w.heap.size ≤ j) ∧ Byt wr v b ∧ secs s' = secs s ∧ saveI n b 8 s = saveI n b (8 - k) s' ∧ Trn S w wr
theorem rfoot_more {w0 w' : World} {S S' : Nat → Prop} {d : Nat} {s : St} (h : Ref w' S' d s) (hf : ∀ k, S' k → S k ∨ w0.heap.size ≤ k) (hS : ∀ k, S k → k < w0.heap.size) (hw : w0.heap.size ≤ w'.heap.size) : Ref w' (more S w0 w') d s :=
  h.wide (fun k hk => (hf k hk).elim .inl (fun e => .inr ⟨e, h.lt k hk⟩)) (more_lt hw hS)
set_option maxRecDepth 100000 in
set_option maxHeartbeats 2000000 in
theorem r5save_is (w : World) (S : Nat → Prop) (g : Nat) (s : St) (x : Int) (v : Value) (b : List UInt8) (h : Ref w S g s) (hv : Byt w v b) (hne : ∀ k, v.ownBlock = some k → ¬ S k) (hlo : ∀ k, v.ownBlock = some k → k < w.heap.size) :
    Calls Tryz.prog 26 #[.pointer (some ⟨g, 0, none⟩), .int .i64 x, v] w (RDone w S g (saveP s x b)) := by
  obtain ⟨A, m, c, rfl, N, hnc, hcm⟩ := hv.form
  have HP := Lib.hid (r5pages_is w S g s h)
  have H := Lib.hid h
  have HLT := Lib.hid h.lt
  have HV := Lib.hid hv
  have HNE := Lib.hid hne
  have HLO := Lib.hid hlo
  have hfew := h.ok.few
  clear h hv hne hlo
  by_cases hx : 0 ≤ x ∧ x < ((secs s / 8 : Nat) : Int)
  · by_cases hl : b.length = 4096
    · obtain ⟨n, hxn⟩ := Int.eq_ofNat_of_zero_le hx.1
      have hn : n < secs s / 8 := by omega
      have hp : saveP s x b = saveI n b 8 s := by unfold saveP; rw [if_pos ⟨hx, hl⟩, hxn, Int.toNat_natCast]
      rw [hp]
      obtain rfl : m = 4096 := N.out.trans hl
      have HN := Lib.hid hn
      have HXN := Lib.hid hxn
      obtain ⟨h0, h1⟩ := hx
      have hx4 : x < 4096 := by omega
      clear hp hfew hl N hn hxn
      generalize hQ : saveI n b 8 s = r
      have HQ := Lib.hid hQ
      clear hQ
      generalize hsd : secs s / 8 = sd at *
      have HSD := Lib.hid hsd
      clear hsd
      go_enter Tryz.func26, Tryz.ntmps26
      go_wp2_with fail
      refine HP.out.mono ?_
      rintro e w1 ⟨rfl, rfl⟩
      go_wp2_with fail
      go_loopw [7] (fun i wr => RSaveRel w S g n s (.slice A 4096 c) b i wr) (fun i _ => 8 - (intOf i).toNat)
      case atStart => exact ⟨0, s, S, by omega, rfl, H.out, fun j hj => .inl hj, HV.out, rfl, rfl, Trn.refl _ _⟩
      case round =>
        obtain ⟨k, s', S', hk, rfl, href, hf, hby, hsec, hrest, htr⟩ := hrel
        have HR := Lib.hid href
        have HF := Lib.hid hf
        have HBY := Lib.hid hby
        have HSE := Lib.hid hsec
        have HRE := Lib.hid hrest
        have HT := Lib.hid htr
        clear href hf hsec hrest htr
        by_cases hlt : k < 8
        · obtain ⟨A1, n1, c1, hcut, hb1, hob⟩ := hby.midrunO (512 * k) (512 * k + 512) (by omega) (by omega)
          rw [Nat.add_sub_cancel_left] at hb1
          have CS := Lib.hid (rwrite_any wr S' g s' ((8 * n + k : Nat) : Int) (.slice A1 n1 c1) (partB b k) HR.out hb1 (fun j e hs => (HF.out j hs).elim (HNE.out j (hob j e)) (fun h => by have := HLO.out j (hob j e); omega)))
          have HNX := Lib.hid (saveI_next (n := n) (b := b) hlt s')
          have HWI := Lib.hid (writeR_in s' ((8 * n + k : Nat) : Int) (partB b k))
          generalize writeR s' ((8 * n + k : Nat) : Int) (partB b k) = q at *
          rw [show ((8 * n + k : Nat) : Int) = 8 * x + (k : Int) by have := HXN.out; omega] at CS
          rw [show ((512 * k + 512 : Nat) : Int) = 512 * (k : Int) + 512 by omega, show ((512 * k : Nat) : Int) = 512 * (k : Int) by omega] at hcut
          clear hby hb1 hob
          go_wp2_with fail
          refine CS.out.mono ?_
          rintro e w2 ⟨rfl, href2, ht2⟩
          have HR2 := Lib.hid href2
          have HT2 : Hid (Trn S w w2) := HT.out.trans ht2 (fun j hj hs => (HF.out j hs).elim id (fun h => by omega))
          have HF2 : Hid (∀ j, more S' wr w2 j → S j ∨ w.heap.size ≤ j) := fun j hj => hj.elim (HF.out j) (fun h => .inr (by have := HT.out.size; omega))
          have HB2 : Hid (Byt w2 (.slice A 4096 c) b) := HBY.out.trn ht2 (fun j e hs => (HF.out j hs).elim (HNE.out j e) (fun h => by have := HLO.out j e; omega))
          clear href2 ht2
          by_cases e0 : q.1 = 0
          · have HNN := Lib.hid (HNX.out.trans (if_pos e0))
            have hz : ((q.1 : Nat) : Int) = 0 := by omega
            rw [hz]
            clear hz e0
            go_wp2_with fail
            go_roundw
            case rel => exact ⟨k + 1, q.2, _, by omega, by go_num, HR2.out, HF2.out, HB2.out, HWI.out.2.trans HSE.out, HRE.out.trans HNN.out, HT2.out⟩
            case measure => simp [intOf]; omega
          · have hne : (((q.1 : Nat) : Int) != 0) = true := by simp only [bne, beq_eq_false_iff_ne, Bool.not_eq_true', ne_eq]; omega
            have HNN := Lib.hid (HNX.out.trans (if_neg e0))
            clear e0
            go_wp2_with fail
            go_ret
            rw [← HQ.out, HRE.out, HNN.out]
            exact ⟨rfl, rfoot_more HR2.out HF2.out HLT.out HT2.out.size, HT2.out⟩
        · obtain rfl : k = 8 := by omega
          go_wp2_with fail
          go_ret
          have hr := HRE.out
          rw [Nat.sub_self, saveI] at hr
          rw [← HQ.out, hr]
          exact ⟨rfl, rfoot_more HR.out HF.out HLT.out HT.out.size, HT.out⟩
    · have hp : saveP s x b = (2, s) := by unfold saveP; rw [if_neg (fun h => hl h.2)]
      rw [hp]
      have hm : ((m : Int) != 4096) = true := by have := N.out; simp only [bne, beq_eq_false_iff_ne, Bool.not_eq_true', ne_eq]; omega
      obtain ⟨h0, h1⟩ := hx
      clear hp hl N hfew
      generalize secs s / 8 = sd at *
      go_enter Tryz.func26, Tryz.ntmps26
      go_wp2_with fail
      refine HP.out.mono ?_
      rintro e w1 ⟨rfl, rfl⟩
      go_wp2_with fail
      go_ret
      exact ⟨rfl, H.out.more (Nat.le_refl _) HLT.out, Trn.refl _ _⟩
  · have hp : saveP s x b = (2, s) := by unfold saveP; rw [if_neg (fun h => hx h.1)]
    rw [hp]
    by_cases h0 : x < 0
    · clear hx
      go_enter Tryz.func26, Tryz.ntmps26
      go_wp2_with fail
      go_ret
      exact ⟨rfl, H.out.more (Nat.le_refl _) HLT.out, Trn.refl _ _⟩
    · have hge : ((secs s / 8 : Nat) : Int) ≤ x := by omega
      clear hx hfew hp
      generalize secs s / 8 = sd at *
      go_enter Tryz.func26, Tryz.ntmps26
      go_wp2_with fail
      refine HP.out.mono ?_
      rintro e w1 ⟨rfl, rfl⟩
      go_wp2_with fail
      go_ret
      exact ⟨rfl, H.out.more (Nat.le_refl _) HLT.out, Trn.refl _ _⟩
end Go.Proofs.YteeljcnmgfjcmaaGreatDoor

/-
  Roots as plain numbers: what a root's bytes are, which bytes are a root's, which root counts. Plain functions; no program is named here.
-/
namespace Go.Proofs.YteeljcnmgfjcmaaGreatDoor
set_option maxRecDepth 100000

/-- A root as plain numbers. -/
structure Rt where
  e : Nat
  p : Nat
  t : Nat
  s : Nat
  l : Nat
  a : Nat
  b : Nat
  c : Nat
  d : Nat
instance : DecidableEq Rt := fun x y =>
  if h : x.e = y.e ∧ x.p = y.p ∧ x.t = y.t ∧ x.s = y.s ∧ x.l = y.l ∧ x.a = y.a ∧ x.b = y.b ∧ x.c = y.c ∧ x.d = y.d then .isTrue (by cases x; cases y; simp_all) else .isFalse (by rintro rfl; simp at h)
def rtL (r : Rt) : List Nat := [r.e, r.p, r.t, r.s, r.l, r.a, r.b, r.c, r.d]
theorem rtL_inj {x y : Rt} (h : rtL x = rtL y) : x = y := by
  cases x; cases y
  simp [rtL] at h
  simp [h]
structure Rt.Wf (r : Rt) : Prop where
  e : r.e < 18446744073709551616
  p : r.p < 18446744073709551616
  t : r.t < 18446744073709551616
  s : r.s < 18446744073709551616
  l : r.l < 18446744073709551616
  a : r.a < 18446744073709551616
  b : r.b < 18446744073709551616
  c : r.c < 18446744073709551616
  d : r.d < 18446744073709551616
def zeroR : Rt := ⟨0, 0, 0, 0, 0, 0, 0, 0, 0⟩
theorem zeroR_wf : zeroR.Wf := by constructor <;> decide
def headR (n p : Nat) : Prop := n = 0 ∨ 2 ≤ n ∧ n < p
instance (n p : Nat) : Decidable (headR n p) := by unfold headR; infer_instance
/-- A root that may be. -/
def okR (r : Rt) : Prop := r.e ≠ 0 ∧ (8 ≤ r.p ∧ r.p ≤ 4096) ∧ headR r.t r.p ∧ headR r.s r.p ∧ r.l ≤ 65536
instance (r : Rt) : Decidable (okR r) := by unfold okR; infer_instance
def rtB (r : Rt) : List UInt8 := wordB 8 r.e ++ (wordB 8 r.p ++ (wordB 8 r.t ++ (wordB 8 r.s ++ (wordB 8 r.l ++ (wordB 8 r.a ++ (wordB 8 r.b ++ (wordB 8 r.c ++ wordB 8 r.d)))))))
theorem rtB_len (r : Rt) : (rtB r).length = 72 := by simp [rtB, wordB_len]
def rootB (r : Rt) : List UInt8 := pageB 1 (r.e % 4294967296) (rtB r)
theorem rootB_len (r : Rt) : (rootB r).length = 4096 := pageB_len (by rw [rtB_len]; omega)
def wAt (l : List UInt8) (i : Nat) : Nat := wordN ((l.drop (8 * i)).take 8)
def toldR (l : List UInt8) : Rt := ⟨wAt l 0, wAt l 1, wAt l 2, wAt l 3, wAt l 4, wAt l 5, wAt l 6, wAt l 7, wAt l 8⟩
theorem wAt_lt (l : List UInt8) (i : Nat) : wAt l i < 18446744073709551616 := by
  have h := wordN_lt ((l.drop (8 * i)).take 8)
  have h2 : ((l.drop (8 * i)).take 8).length ≤ 8 := by rw [List.length_take]; omega
  have h3 : 256 ^ ((l.drop (8 * i)).take 8).length ≤ 256 ^ 8 := Nat.pow_le_pow_right (by omega) h2
  unfold wAt
  omega
theorem toldR_wf (l : List UInt8) : (toldR l).Wf := ⟨wAt_lt _ _, wAt_lt _ _, wAt_lt _ _, wAt_lt _ _, wAt_lt _ _, wAt_lt _ _, wAt_lt _ _, wAt_lt _ _, wAt_lt _ _⟩
theorem wordN_wordB8 {n : Nat} (h : n < 18446744073709551616) : wordN (wordB 8 n) = n := by
  have := read_word 8 n [] (by omega)
  unfold wordR at this
  rw [if_neg (by omega), if_pos (by omega)] at this
  have h2 := congrArg Prod.fst this
  simp only [takeB] at h2
  rw [List.append_nil] at h2
  rw [if_pos (by rw [wordB_len]; omega)] at h2
  simp only [List.drop_zero, Int.toNat_natCast] at h2
  rw [List.take_of_length_le (by rw [wordB_len]; omega)] at h2
  rw [h2]
  exact Nat.mod_eq_of_lt h
theorem wAt_zero {n : Nat} (h : n < 18446744073709551616) (l : List UInt8) : wAt (wordB 8 n ++ l) 0 = n := by
  unfold wAt
  rw [Nat.mul_zero, List.drop_zero, List.take_left' (wordB_len 8 n), wordN_wordB8 h]
theorem wAt_succ (n i : Nat) (l : List UInt8) : wAt (wordB 8 n ++ l) (i + 1) = wAt l i := by
  unfold wAt
  rw [show 8 * (i + 1) = 8 + 8 * i by omega, ← List.drop_drop, List.drop_left' (wordB_len 8 n)]
theorem wAt_1 (n : Nat) (l : List UInt8) : wAt (wordB 8 n ++ l) 1 = wAt l 0 := wAt_succ n 0 l
theorem wAt_2 (n : Nat) (l : List UInt8) : wAt (wordB 8 n ++ l) 2 = wAt l 1 := wAt_succ n 1 l
theorem wAt_3 (n : Nat) (l : List UInt8) : wAt (wordB 8 n ++ l) 3 = wAt l 2 := wAt_succ n 2 l
theorem wAt_4 (n : Nat) (l : List UInt8) : wAt (wordB 8 n ++ l) 4 = wAt l 3 := wAt_succ n 3 l
theorem wAt_5 (n : Nat) (l : List UInt8) : wAt (wordB 8 n ++ l) 5 = wAt l 4 := wAt_succ n 4 l
theorem wAt_6 (n : Nat) (l : List UInt8) : wAt (wordB 8 n ++ l) 6 = wAt l 5 := wAt_succ n 5 l
theorem wAt_7 (n : Nat) (l : List UInt8) : wAt (wordB 8 n ++ l) 7 = wAt l 6 := wAt_succ n 6 l
theorem wAt_8 (n : Nat) (l : List UInt8) : wAt (wordB 8 n ++ l) 8 = wAt l 7 := wAt_succ n 7 l
theorem toldR_of {r : Rt} (h : r.Wf) (l : List UInt8) : toldR (rtB r ++ l) = r := by
  unfold toldR rtB
  simp only [List.append_assoc, wAt_1, wAt_2, wAt_3, wAt_4, wAt_5, wAt_6, wAt_7, wAt_8, wAt_zero h.e, wAt_zero h.p, wAt_zero h.t, wAt_zero h.s, wAt_zero h.l, wAt_zero h.a, wAt_zero h.b, wAt_zero h.c, wAt_zero h.d]
theorem wordR_at {l : List UInt8} (h : 8 ≤ l.length) : wordR l 0 8 = (wAt l 0, l.drop 8, 0) := by
  unfold wordR takeB wAt
  rw [if_neg (by omega), if_pos (by omega), if_pos (by show 8 ≤ _; omega)]
  rfl
theorem wAt_drop (l : List UInt8) (i : Nat) : wAt (l.drop 8) i = wAt l (i + 1) := by
  unfold wAt
  rw [List.drop_drop, show 8 + 8 * i = 8 * (i + 1) by omega]
/-- The root whose page these bytes are. -/
def readRt (b : List UInt8) : Option Rt := if okB b ∧ okR (toldR (b.drop 16)) ∧ rootB (toldR (b.drop 16)) = b then some (toldR (b.drop 16)) else none
theorem rootB_ok (r : Rt) : okB (rootB r) := pageB_ok (by omega) (by omega) (by rw [rtB_len]; omega)
theorem rootB_drop (r : Rt) : (rootB r).drop 16 = padB (rtB r) := pageB_drop _ _ _
theorem toldR_root {r : Rt} (h : r.Wf) : toldR ((rootB r).drop 16) = r := by rw [rootB_drop]; unfold padB; exact toldR_of h _
theorem readRt_root {r : Rt} (h : r.Wf) (ok : okR r) : readRt (rootB r) = some r := by
  unfold readRt
  rw [toldR_root h, if_pos ⟨rootB_ok r, ok, rfl⟩]
theorem readRt_some {b : List UInt8} {r : Rt} (h : readRt b = some r) : rootB r = b ∧ okR r ∧ r.Wf ∧ okB b := by
  unfold readRt at h
  split at h
  · rename_i h1
    injection h with h
    subst h
    exact ⟨h1.2.2, h1.2.1, toldR_wf _, h1.1⟩
  · cases h
theorem readRt_none {b : List UInt8} (h : ¬ okB b) : readRt b = none := by
  unfold readRt
  rw [if_neg (fun k => h k.1)]
theorem rootB_inj {x y : Rt} (hx : x.Wf) (hy : y.Wf) (h : rootB x = rootB y) : x = y := by
  rw [← toldR_root hx, ← toldR_root hy, h]
theorem okR_ne {r : Rt} (h : okR r) : r ≠ zeroR := by rintro rfl; exact h.1 rfl
/-- Which counts, of those that are. -/
def chooseR (a b : Rt) (x y : Bool) : Rt × Bool := if x ∧ y ∧ a.e < b.e then (b, true) else if x then (a, true) else if y then (b, true) else (zeroR, false)
/-- The root in a slot, if it counts there; else none. -/
def slotR (b : List UInt8) (k n : Nat) : Rt := match readRt b with
  | some r => if r.e % 2 = k ∧ r.p = n then r else zeroR
  | none => zeroR
theorem slotR_some {b : List UInt8} {r : Rt} {k n : Nat} (h : readRt b = some r) (hk : r.e % 2 = k ∧ r.p = n) : slotR b k n = r := by
  unfold slotR; rw [h]; exact if_pos hk
theorem slotR_other {b : List UInt8} {r : Rt} {k n : Nat} (h : readRt b = some r) (hk : ¬ (r.e % 2 = k ∧ r.p = n)) : slotR b k n = zeroR := by
  unfold slotR; rw [h]; exact if_neg hk
theorem slotR_none {b : List UInt8} {k n : Nat} (h : readRt b = none) : slotR b k n = zeroR := by
  unfold slotR; rw [h]
theorem slotR_wf (b : List UInt8) (k n : Nat) : (slotR b k n).Wf := by
  cases h : readRt b with
  | none => rw [slotR_none h]; exact zeroR_wf
  | some r =>
    by_cases hk : r.e % 2 = k ∧ r.p = n
    · rw [slotR_some h hk]; exact (readRt_some h).2.2.1
    · rw [slotR_other h hk]; exact zeroR_wf
theorem chooseR_wf {a b : Rt} (x y : Bool) (ha : a.Wf) (hb : b.Wf) : (chooseR a b x y).1.Wf := by
  unfold chooseR
  split
  · exact hb
  · split
    · exact ha
    · split
      · exact hb
      · exact zeroR_wf
/-- What is found, of what stands in both slots. -/
def findR (b0 b1 : List UInt8) (n : Nat) : Rt × Bool := chooseR (slotR b0 0 n) (slotR b1 1 n) (decide (slotR b0 0 n ≠ zeroR)) (decide (slotR b1 1 n ≠ zeroR))
end Go.Proofs.YteeljcnmgfjcmaaGreatDoor

/-
  Roots by value, and in a block; two roots compared; package root's small functions by their contracts. Conditions: a root's numbers are those of 64 bits.
-/
namespace Go.Proofs.YteeljcnmgfjcmaaGreatDoor
open Go.RowKit Go.Maps
set_option maxRecDepth 100000

/-- A root by value. -/
def rtV (r : Rt) : Array Value := #[.int .u64 (r.e : Int), .int .u64 (r.p : Int), .int .u64 (r.t : Int), .int .u64 (r.s : Int), .int .u64 (r.l : Int), .int .u64 (r.a : Int), .int .u64 (r.b : Int), .int .u64 (r.c : Int), .int .u64 (r.d : Int)]
theorem rtV_size (r : Rt) : (rtV r).size = 9 := rfl
theorem rtV_one (r : Rt) : (rtV r).all (·.oneCell') = true := by simp [rtV, Value.oneCell']
theorem rtV_zero : rtV zeroR = #[.int .u64 0, .int .u64 0, .int .u64 0, .int .u64 0, .int .u64 0, .int .u64 0, .int .u64 0, .int .u64 0, .int .u64 0] := rfl
theorem rtInfo : (Tryz.prog.info? 39).map (fun i => (i.zero, i.size)) = some (some (.agg (rtV zeroR)), 9) := by kernel_rfl
theorem rtZero : ∀ w, (zeroValue 39).run Tryz.prog w = .ok (.agg (rtV zeroR)) w := (zero_of_info rtInfo).1
theorem rtSize : (Tryz.prog.info? 39).map (·.size) = some 9 := (zero_of_info rtInfo).2
theorem rtU : Tryz.prog.underlying 39 = some (.struct (Tryz.prog.fieldsOf 39)) := by kernel_rfl

/-! Two roots compared. -/
theorem cellR64 : Tryz.prog.cellsOf 36 = 1 := by kernel_rfl
theorem cellR4 : Tryz.prog.cellsOf 37 = 4 := by kernel_rfl
theorem cellRt : Tryz.prog.cellsOf 39 = 9 := by kernel_rfl
theorem lit_one (n d : Nat) (h : n < 18446744073709551616) : Tryz.prog.keyLits (d + 1) 36 [.int .u64 (n : Int)] = some [.int .u64 (n : Int)] := by
  unfold Program.keyLits
  rw [Tryz.underlying36]
  simp only [true_and]
  rw [if_pos]
  have h1 : IntKind.u64.min = 0 := rfl
  have h2 : IntKind.u64.max = 18446744073709551615 := rfl
  simp only [Lit.wf, h1, h2, Bool.and_eq_true, decide_eq_true_eq]
  omega
theorem lit_four (a b c e d : Nat) (ha : a < 18446744073709551616) (hb : b < 18446744073709551616) (hc : c < 18446744073709551616) (he : e < 18446744073709551616) :
    Tryz.prog.keyLits (d + 2) 37 [.int .u64 (a : Int), .int .u64 (b : Int), .int .u64 (c : Int), .int .u64 (e : Int)] = some [.int .u64 (a : Int), .int .u64 (b : Int), .int .u64 (c : Int), .int .u64 (e : Int)] := by
  unfold Program.keyLits
  rw [Tryz.underlying37]
  simp only [cellR4, cellR64]
  rw [if_pos (by rfl)]
  simp [List.range, List.range.loop, lit_one _ d ha, lit_one _ d hb, lit_one _ d hc, lit_one _ d he]
theorem rtFields : (Tryz.prog.fieldsOf 39).toList.map (fun f => (f.type, f.offset)) = [(36, 0), (36, 1), (36, 2), (36, 3), (36, 4), (37, 5)] := by kernel_rfl
theorem rtNames : (Tryz.prog.fieldsOf 39).all (·.name != "_") = true := by kernel_rfl
theorem rt_lits (r : Rt) (h : r.Wf) : Tryz.prog.keyLits 3 39 (rtV r).toList = some ((rtL r).map fun (n : Nat) => Lit.int .u64 (n : Int)) := by
  unfold Program.keyLits
  rw [rtU]
  have hf := rtFields
  have hn := rtNames
  generalize Tryz.prog.fieldsOf 39 = fs at *
  obtain ⟨fs⟩ := fs
  simp only at hf
  have hlen : fs.length = 6 := by have := congrArg List.length hf; simpa using this
  match fs, hlen, hf, hn with
  | [f0, f1, f2, f3, f4, f5], _, hf, hn =>
    simp only [List.map_cons, List.map_nil, List.cons.injEq, Prod.mk.injEq, and_true] at hf
    obtain ⟨⟨t0, o0⟩, ⟨t1, o1⟩, ⟨t2, o2⟩, ⟨t3, o3⟩, ⟨t4, o4⟩, ⟨t5, o5⟩⟩ := hf
    simp only [cellRt]
    rw [if_pos ⟨rfl, hn⟩]
    simp [t0, o0, t1, o1, t2, o2, t3, o3, t4, o4, t5, o5, cellR64, cellR4, rtV, rtL, lit_one _ 1 h.e, lit_one _ 1 h.p, lit_one _ 1 h.t, lit_one _ 1 h.s, lit_one _ 1 h.l, lit_four _ _ _ _ 0 h.a h.b h.c h.d]
theorem rt_keyed : Tryz.prog.keyTypeAt 3 39 = true := by kernel_rfl
theorem rt_formed (r : Rt) : (Value.agg (rtV r)).formed Tryz.prog 39 = true := by
  unfold Value.formed
  rw [rtU]
  simp [cellRt, rtV_size]
theorem rt_equal (w : World) (x y : Rt) (hx : x.Wf) (hy : y.Wf) : (Op.equalIn 10000 39 (.agg (rtV x)) (.agg (rtV y))).run Tryz.prog w = .ok (decide (x = y)) w := by
  obtain ⟨b, hb, hi⟩ := run_equalIn_deep 9997 3 39 rt_keyed w 3 3 (.agg (rtV x)) (.agg (rtV y)) _ _ (rt_formed x) (rt_formed y) (rt_lits x hx) (rt_lits y hy)
  rw [show (10000 : Nat) = 9997 + 3 from rfl, hb]
  have : b = decide (x = y) := by
    rw [Bool.eq_iff_iff, hi, decide_eq_true_eq]
    constructor
    · intro h
      simp [rtL] at h
      cases x; cases y
      simp at h
      simp
      omega
    · rintro rfl; rfl
  rw [this]
theorem rt_guards : Tryz.prog.eqGuardType Tryz.prog.depth 39 = false := by kernel_rfl
theorem rt_guard (w : World) (op : BinOp) (x y : Operand) (a b : Array Value) : (eqGuard op 39 x y (.agg a) (.agg b)).run Tryz.prog w = .ok () w :=
  run_eqGuard_agg w op 39 x y a b rt_guards
theorem rt_eql (w : World) (x y : Rt) (hx : x.Wf) (hy : y.Wf) : (binOp .eql 39 (.agg (rtV x)) (.agg (rtV y))).run Tryz.prog w = .ok (.bool (decide (x = y))) w := by
  rw [run_eql_struct, rt_equal w x y hx hy]; rfl
theorem rt_neq (w : World) (x y : Rt) (hx : x.Wf) (hy : y.Wf) : (binOp .neq 39 (.agg (rtV x)) (.agg (rtV y))).run Tryz.prog w = .ok (.bool (!decide (x = y))) w := by
  rw [run_neq_struct, rt_equal w x y hx hy]; rfl

/-- Block p holds this root. -/
def RBox (w : World) (p : Nat) (r : Rt) : Prop := w.heap[p]? = some (.cells (rtV r) 39 (0, 0))
section
variable {w w' : World} {p : Nat} {r : Rt}
theorem RBox.new (w : World) (r : Rt) : RBox (w.alloc (.cells (rtV r) 39)) w.heap.size r := heap_alloc_new w _
theorem RBox.lt (h : RBox w p r) : p < w.heap.size := (Array.getElem?_eq_some_iff.1 h).1
theorem RBox.below (h : RBox w p r) (hb : Below w.heap.size w w') : RBox w' p r := (hb.block p h.lt).trans h
theorem RBox.trn {T : Nat → Prop} (h : RBox w p r) (ht : Trn T w w') (hk : ¬ T p) : RBox w' p r := (ht.block p h.lt hk).trans h
theorem RBox.frozen (h : RBox w p r) (k : Nat) : w.frozen? ⟨p, k, none⟩ = false := by
  unfold RBox at h
  simp [World.frozen?, h]
theorem RBox.cells (h : RBox w p r) : w.cell? ⟨p, 0, none⟩ = some (.int .u64 (r.e : Int)) ∧ w.cell? ⟨p, 1, none⟩ = some (.int .u64 (r.p : Int)) ∧ w.cell? ⟨p, 2, none⟩ = some (.int .u64 (r.t : Int)) ∧ w.cell? ⟨p, 3, none⟩ = some (.int .u64 (r.s : Int)) ∧ w.cell? ⟨p, 4, none⟩ = some (.int .u64 (r.l : Int)) ∧ w.cell? ⟨p, 5, none⟩ = some (.int .u64 (r.a : Int)) ∧ w.cell? ⟨p, 6, none⟩ = some (.int .u64 (r.b : Int)) ∧ w.cell? ⟨p, 7, none⟩ = some (.int .u64 (r.c : Int)) ∧ w.cell? ⟨p, 8, none⟩ = some (.int .u64 (r.d : Int)) := by
  refine ⟨?_, ?_, ?_, ?_, ?_, ?_, ?_, ?_, ?_⟩ <;> rw [cell_of_row _ _ _ _ _ _ h] <;> rfl
/-- The whole root out of its block, as the walk meets it. -/
theorem RBox.loadVar (h : RBox w p r) : (loadVar 39 ⟨p, 0, none⟩).run Tryz.prog w = .ok (.agg (rtV r)) w :=
  run_loadVar_row w p _ _ (rtV r) (0, 0) _ h rtU rfl rtSize
end
section
variable {ops : Array Oper} {rest : List Oper} {o : Oper} {a : Act} {w : World} {K : Act → World → Prop} {Q : Exit → Act → World → Prop}
theorem wp_loadRt (x : Operand) (ho : o.op = .load 39 x) (g : Nat) (hx : a.eval x = .pointer (some ⟨g, 0, none⟩)) (r : Rt) (h : RBox w g r)
    (hK : K (a.put o.dst (.agg (rtV r))) w) : o.wp Tryz.prog a w K Q :=
  wp_load_row 39 x ho g hx 39 (rtV r) (0, 0) _ h rtU rfl rtSize hK
theorem exec_loadRt {u : World} (x : Operand) (ho : o.op = .load 39 x) (g : Nat) (hx : a.eval x = .pointer (some ⟨g, 0, none⟩)) {r : Rt} (h : RBox u g r) :
    (execOp a.eval o).run Tryz.prog u = .ok (.value (.agg (rtV r))) u := by
  unfold execOp
  simp only [ho, hx, Instr.loadAt, Instr.sureAddr, Sem.run_bind, Sem.run_pure, Result.andThen_ok, h.loadVar]
theorem exec_eqRt {u : World} (x y : Operand) (ho : o.op = .binOp .eql 39 x y 39) {r s : Rt} (hx : a.eval x = .agg (rtV r)) (hy : a.eval y = .agg (rtV s)) (hr : r.Wf) (hs : s.Wf) :
    (execOp a.eval o).run Tryz.prog u = .ok (.value (.bool (decide (r = s)))) u := by
  unfold execOp
  simp only [ho, hx, hy, Sem.run_bind, rt_guard, rt_eql u r s hr hs, Result.andThen_ok, Sem.run_pure]
theorem exec_neRt {u : World} (x y : Operand) (ho : o.op = .binOp .neq 39 x y 39) {r s : Rt} (hx : a.eval x = .agg (rtV r)) (hy : a.eval y = .agg (rtV s)) (hr : r.Wf) (hs : s.Wf) :
    (execOp a.eval o).run Tryz.prog u = .ok (.value (.bool (!decide (r = s)))) u := by
  unfold execOp
  simp only [ho, hx, hy, Sem.run_bind, rt_guard, rt_neq u r s hr hs, Result.andThen_ok, Sem.run_pure]
theorem wpList_loadRt (hgd : o.guard = none) (x : Operand) (ho : o.op = .load 39 x) (g : Nat) (hx : a.eval x = .pointer (some ⟨g, 0, none⟩)) (r : Rt) (h : RBox w g r)
    (hK : wpList Tryz.prog ops Q rest (a.put o.dst (.agg (rtV r))) w) : wpList Tryz.prog ops Q (o :: rest) a w :=
  wpList_plain hgd fun _ hk => wp_loadRt x ho g hx r h (hk _ _ hK)
/-- The operation that writes a whole root. -/
theorem wpList_storeRt (hgd : o.guard = none) (x y : Operand) (ho : o.op = .store 39 x y) (g : Nat) (hx : a.eval x = .pointer (some ⟨g, 0, none⟩)) (u : Rt) (hy : a.eval y = .agg (rtV u)) (t : Rt) (h : RBox w g t)
    (hK : ∀ w', RBox w' g u → (∀ B a, Below B a w → B ≤ g → Below B a w') → Trn (fun k => k = g) w w' → w'.heap.size = w.heap.size → wpList Tryz.prog ops Q rest (a.put o.dst undef) w') : wpList Tryz.prog ops Q (o :: rest) a w := by
  have hs : (w.setRow g (rtV u)).heap.size = w.heap.size := by simp [World.setRow]
  have hne : ∀ k, k ≠ g → (w.setRow g (rtV u)).heap[k]? = w.heap[k]? := fun k hk => by
    simp only [World.setRow]
    rw [Array.getElem?_modify, if_neg (by omega)]
  exact wpList_store_row hgd 39 x y ho g (rtV u) hx hy 39 (rtV t) h rtSize rfl (rtV_one u)
    (hK _ (setRow_heap w g _ _ _ _ h) (fun B a hb hB => ⟨hb.os, hb.tape, hb.output, by rw [hs]; exact hb.size, fun k hk => by rw [← hb.block k hk]; exact hne k (by omega)⟩) ⟨rfl, rfl, rfl, by rw [hs]; exact Nat.le_refl _, fun k _ hk => hne k hk⟩ hs)
/-- .. into a variable that was just made. -/
theorem wpList_storeNewRt {w1 : World} (t u : Rt) (hgd : o.guard = none) (x y : Operand) (ho : o.op = .store 39 x y) (hx : a.eval x = .pointer (some ⟨w1.heap.size, 0, none⟩)) (hy : a.eval y = .agg (rtV u))
    (hK : ∀ w', RBox w' w1.heap.size u → Below w1.heap.size w1 w' → w1.heap.size < w'.heap.size → wpList Tryz.prog ops Q rest (a.put o.dst undef) w') : wpList Tryz.prog ops Q (o :: rest) a (w1.alloc (.cells (rtV t) 39)) :=
  wpList_storeRt hgd x y ho w1.heap.size hx u hy t (RBox.new w1 t) fun w' h1 h2 _ _ => hK w' h1 (h2 _ _ (below_new w1 _) (Nat.le_refl _)) h1.lt
end

section
variable {a : Act} {w : World}
/-- A root and one thing more as a call's answer. -/
theorem ret_rt2 {fn : Func} {p q : Tmp} {Post : Ending → World → Prop} (g : Nat) (hd : a.defers = []) (h : fn.results = #[.cell p 39, .tmp q]) (hp : a.tmps.getD p undef = .pointer (some ⟨g, 0, none⟩)) (v : Value) (hq : a.tmps.getD q undef = v) {r : Rt} (hg : RBox w g r)
    (hpost : Post (.returned (.tuple #[.agg (rtV r), v])) w) : bodyPost Tryz.prog fn Post .ret a w := by
  refine bodyPost_ret (v := .tuple #[.agg (rtV r), v]) ?_ hd hpost
  have hp' : a.tmps[p]?.getD undef = .pointer (some ⟨g, 0, none⟩) := by simpa using hp
  have hq' : a.tmps[q]?.getD undef = v := by simpa using hq
  simp [results, h, hp', hq', asAddr, hg.loadVar]
/-- A root as a call's answer. -/
theorem ret_rt1 {fn : Func} {p : Tmp} {Post : Ending → World → Prop} (g : Nat) (hd : a.defers = []) (h : fn.results = #[.cell p 39]) (hp : a.tmps.getD p undef = .pointer (some ⟨g, 0, none⟩)) {r : Rt} (hg : RBox w g r)
    (hpost : Post (.returned (.agg (rtV r))) w) : bodyPost Tryz.prog fn Post .ret a w := by
  refine bodyPost_ret (v := .agg (rtV r)) ?_ hd hpost
  have hp' : a.tmps[p]?.getD undef = .pointer (some ⟨g, 0, none⟩) := by simpa using hp
  simp [results, h, hp', asAddr, hg.loadVar]
end
theorem ishead_any (n p : Nat) (w : World) : Calls Tryz.prog 61 #[.int .u64 (n : Int), .int .u64 (p : Int)] w fun e w' => e = .returned (.bool (decide (headR n p))) ∧ w = w' := by
  by_cases h0 : n = 0
  · have hd : decide (headR n p) = true := decide_eq_true (.inl h0)
    rw [hd]
    have h0' : ((n : Int) == 0) = true := by simp; omega
    clear hd h0
    go_enter Tryz.func61, Tryz.ntmps61
    go_wp2_with fail
    go_ret
    exact ⟨rfl, rfl⟩
  · have h0' : ((n : Int) == 0) = false := by simp; omega
    by_cases h2 : (2 : Int) ≤ (n : Int)
    · by_cases hp : (n : Int) < (p : Int)
      · have hd : decide (headR n p) = true := decide_eq_true (.inr ⟨by omega, by omega⟩)
        rw [hd]
        clear hd h0
        go_enter Tryz.func61, Tryz.ntmps61
        go_wp2_with fail
        go_ret
        exact ⟨rfl, rfl⟩
      · have hd : decide (headR n p) = false := decide_eq_false (by unfold headR; omega)
        rw [hd]
        clear hd h0
        go_enter Tryz.func61, Tryz.ntmps61
        go_wp2_with fail
        go_ret
        exact ⟨rfl, rfl⟩
    · have hd : decide (headR n p) = false := decide_eq_false (by unfold headR; omega)
      rw [hd]
      clear hd h0
      go_enter Tryz.func61, Tryz.ntmps61
      go_wp2_with fail
      go_ret
      exact ⟨rfl, rfl⟩
end Go.Proofs.YteeljcnmgfjcmaaGreatDoor

/-
  Package root: Check, Slot, Choose, isMade by their contracts. Conditions: a root's numbers are those of 64 bits.
-/
namespace Go.Proofs.YteeljcnmgfjcmaaGreatDoor
open Go.RowKit Go.Maps
set_option maxRecDepth 100000

theorem rslot_any (w : World) (r : Rt) : Calls Tryz.prog 23 #[.agg (rtV r)] w fun e w' => e = .returned (.int .i64 ((r.e % 2 : Nat) : Int)) ∧ Below w.heap.size w w' := by
  have HB := Lib.hid (below_new w (.cells (rtV r) 39))
  unfold rtV at *
  go_enter Tryz.func23, Tryz.ntmps23
  go_wp2_with fail
  go_ret
  exact ⟨ret_int (by omega), HB.out⟩
/-- What Check answers. -/
def IntE (w : World) (n : Nat) (e : Ending) (w' : World) : Prop := e = .returned (.int .i64 (n : Int)) ∧ Below w.heap.size w w'
def checkN (r : Rt) : Nat := if okR r then 0 else 2
set_option maxHeartbeats 2000000 in
theorem check_any (w : World) (r : Rt) : Calls Tryz.prog 39 #[.agg (rtV r)] w (IntE w (checkN r)) := by
  have HB := Lib.hid (below_new w (.cells (rtV r) 39))
  have HT := Lib.hid (fun W => ishead_any r.t r.p W)
  have HS := Lib.hid (fun W => ishead_any r.s r.p W)
  unfold IntE
  generalize hq : checkN r = q
  unfold checkN at hq
  unfold rtV at *
  by_cases h1 : r.e = 0
  · obtain rfl : q = 2 := by rw [if_neg (fun h => h.1 h1)] at hq; exact hq.symm
    have h1' : ((r.e : Int) == 0) = true := by simp; omega
    clear hq h1
    by_cases h2 : (8 : Int) ≤ (r.p : Int)
    · by_cases h3 : (r.p : Int) ≤ 4096
      · go_enter Tryz.func39, Tryz.ntmps39
        go_wp2_with fail
        go_ret
        exact ⟨rfl, HB.out⟩
      · go_enter Tryz.func39, Tryz.ntmps39
        go_wp2_with fail
        go_ret
        exact ⟨rfl, HB.out⟩
    · go_enter Tryz.func39, Tryz.ntmps39
      go_wp2_with fail
      go_ret
      exact ⟨rfl, HB.out⟩
  · have h1' : ((r.e : Int) == 0) = false := by simp; omega
    by_cases h2 : (8 : Int) ≤ (r.p : Int)
    · by_cases h3 : (r.p : Int) ≤ 4096
      · by_cases h4 : headR r.t r.p
        · have H4 : Hid (decide (headR r.t r.p) = true) := decide_eq_true h4
          by_cases h5 : headR r.s r.p
          · have H5 : Hid (decide (headR r.s r.p) = true) := decide_eq_true h5
            by_cases h6 : (65536 : Int) < (r.l : Int)
            · obtain rfl : q = 2 := by rw [if_neg (fun h => by have := h.2.2.2.2; omega)] at hq; exact hq.symm
              clear hq h1 h4 h5
              go_enter Tryz.func39, Tryz.ntmps39
              go_wp2_with fail
              refine (HT.out _).mono ?_
              rintro e w1 ⟨rfl, rfl⟩
              rw [H4.out]
              go_wp2_with fail
              refine (HS.out _).mono ?_
              rintro e w1 ⟨rfl, rfl⟩
              rw [H5.out]
              go_wp2_with fail
              go_ret
              exact ⟨rfl, HB.out⟩
            · obtain rfl : q = 0 := by rw [if_pos ⟨h1, ⟨by omega, by omega⟩, h4, h5, by omega⟩] at hq; exact hq.symm
              clear hq h1 h4 h5
              go_enter Tryz.func39, Tryz.ntmps39
              go_wp2_with fail
              refine (HT.out _).mono ?_
              rintro e w1 ⟨rfl, rfl⟩
              rw [H4.out]
              go_wp2_with fail
              refine (HS.out _).mono ?_
              rintro e w1 ⟨rfl, rfl⟩
              rw [H5.out]
              go_wp2_with fail
              go_ret
              exact ⟨rfl, HB.out⟩
          · have H5 : Hid (decide (headR r.s r.p) = false) := decide_eq_false h5
            obtain rfl : q = 2 := by rw [if_neg (fun h => h5 h.2.2.2.1)] at hq; exact hq.symm
            clear hq h1 h4 h5
            go_enter Tryz.func39, Tryz.ntmps39
            go_wp2_with fail
            refine (HT.out _).mono ?_
            rintro e w1 ⟨rfl, rfl⟩
            rw [H4.out]
            go_wp2_with fail
            refine (HS.out _).mono ?_
            rintro e w1 ⟨rfl, rfl⟩
            rw [H5.out]
            go_wp2_with fail
            go_ret
            exact ⟨rfl, HB.out⟩
        · have H4 : Hid (decide (headR r.t r.p) = false) := decide_eq_false h4
          obtain rfl : q = 2 := by rw [if_neg (fun h => h4 h.2.2.1)] at hq; exact hq.symm
          clear hq h1 h4
          go_enter Tryz.func39, Tryz.ntmps39
          go_wp2_with fail
          refine (HT.out _).mono ?_
          rintro e w1 ⟨rfl, rfl⟩
          rw [H4.out]
          go_wp2_with fail
          go_ret
          exact ⟨rfl, HB.out⟩
      · obtain rfl : q = 2 := by rw [if_neg (fun h => by have := h.2.1; omega)] at hq; exact hq.symm
        clear hq h1
        go_enter Tryz.func39, Tryz.ntmps39
        go_wp2_with fail
        go_ret
        exact ⟨rfl, HB.out⟩
    · obtain rfl : q = 2 := by rw [if_neg (fun h => by have := h.2.1; omega)] at hq; exact hq.symm
      clear hq h1
      go_enter Tryz.func39, Tryz.ntmps39
      go_wp2_with fail
      go_ret
      exact ⟨rfl, HB.out⟩
theorem ismade_is (w : World) (S : Nat → Prop) (g : Nat) (s : St) (h : Dsk w S g s) : Calls Tryz.prog 19 #[.pointer (some ⟨g, 0, none⟩)] w fun e w' => e = .returned (.bool true) ∧ w = w' := by
  have H := Lib.hid (sectors_any w S g s h)
  have hpos : 0 < secs s := by obtain ⟨_, _, _, _, _, _, _, _, ok⟩ := h; exact ok.some_
  clear h
  generalize secs s = k at *
  have hk : (0 : Int) < (k : Int) := by omega
  go_enter Tryz.func19, Tryz.ntmps19
  go_wp2_with fail
  refine H.out.mono ?_
  rintro e w1 ⟨rfl, rfl⟩
  go_wp2_with fail
  go_ret
  exact ⟨rfl, rfl⟩
theorem ismade_nil (w : World) : Calls Tryz.prog 19 #[.pointer none] w fun e w' => e = .returned (.bool false) ∧ w = w' := by
  go_enter Tryz.func19, Tryz.ntmps19
  go_wp2_with fail
  refine (sectors_nil _).mono ?_
  rintro e w1 ⟨rfl, rfl⟩
  go_wp2_with fail
  go_ret
  exact ⟨rfl, rfl⟩
end Go.Proofs.YteeljcnmgfjcmaaGreatDoor

/-
  Package root: Choose by its contract. Conditions: none.
-/
namespace Go.Proofs.YteeljcnmgfjcmaaGreatDoor
open Go.RowKit Go.Maps
set_option maxRecDepth 100000

/-- A root, and whether it is one. -/
def ChoE (w : World) (p : Rt × Bool) (e : Ending) (w' : World) : Prop := e = .returned (.tuple #[.agg (rtV p.1), .bool p.2]) ∧ Below w.heap.size w w'
set_option maxHeartbeats 2000000 in
theorem choose_any (w : World) (a b : Rt) (x y : Bool) : Calls Tryz.prog 30 #[.agg (rtV a), .agg (rtV b), .bool x, .bool y] w (ChoE w (chooseR a b x y)) := by
  have Z := rtZero
  obtain ⟨w1, hw1⟩ : ∃ w1, w.alloc (.cells (rtV a) 39) = w1 := ⟨_, rfl⟩
  obtain ⟨w2, hw2⟩ : ∃ w2, w1.alloc (.cells (rtV b) 39) = w2 := ⟨_, rfl⟩
  obtain ⟨w3, hw3⟩ : ∃ w3, w2.alloc (.cells (rtV zeroR) 39) = w3 := ⟨_, rfl⟩
  have s1 : w1.heap.size = w.heap.size + 1 := by rw [← hw1]; simp
  have s2 : w2.heap.size = w.heap.size + 2 := by rw [← hw2]; simp [s1]
  have hb1 : Below w.heap.size w w1 := hw1 ▸ below_new w _
  have hb2 : Below w1.heap.size w1 w2 := hw2 ▸ below_new w1 _
  have hb3 : Below w2.heap.size w2 w3 := hw3 ▸ below_new w2 _
  have hA : RBox w3 w.heap.size a := (((hw1 ▸ RBox.new w a : RBox w1 _ _).below hb2).below hb3)
  have hB : RBox w3 (w.heap.size + 1) b := by
    have := ((hw2 ▸ RBox.new w1 b : RBox w2 _ _).below hb3)
    rwa [s1] at this
  have hZ : RBox w3 (w.heap.size + 2) zeroR := by
    have := (hw3 ▸ RBox.new w2 zeroR : RBox w3 _ _)
    rwa [s2] at this
  have hbl : Below w.heap.size w w3 := hb1.trans ((hb2.trans (hb3.mono hb2.size)).mono hb1.size)
  have hW : w3 = ((w.alloc (.cells (rtV a) 39)).alloc (.cells (rtV b) 39)).alloc (.cells (rtV zeroR) 39) := by rw [hw1, hw2, hw3]
  rw [hW] at hA hB hZ hbl
  have HA := Lib.hid hA
  have HB := Lib.hid hB
  have HZ := Lib.hid hZ
  have HBL := Lib.hid hbl
  have c0 := hA.cells.1
  have c1 := hB.cells.1
  clear hA hB hZ hb1 hb2 hb3 hw1 hw2 hw3 s1 s2 hW hbl
  generalize hq : chooseR a b x y = q
  unfold chooseR at hq
  unfold ChoE
  cases x
  · cases y
    · obtain rfl : (zeroR, false) = q := by simpa using hq
      clear hq
      go_enter Tryz.func30, Tryz.ntmps30
      go_wp2_with (first
        | (refine wpList_storeRt rfl _ _ rfl _ rfl zeroR rfl _ HZ.out ?_; intro w2 h2 h3 h4 h5))
      refine ret_rt2 _ rfl rfl rfl _ rfl h2 ?_
      exact ⟨rfl, h3 _ _ HBL.out (by omega)⟩
    · obtain rfl : (b, true) = q := by simpa using hq
      clear hq
      go_enter Tryz.func30, Tryz.ntmps30
      go_wp2_with (first
        | (refine wpList_loadRt rfl _ rfl _ rfl _ HB.out ?_)
        | (refine wpList_storeRt rfl _ _ rfl _ rfl b rfl _ HZ.out ?_; intro w2 h2 h3 h4 h5))
      refine ret_rt2 _ rfl rfl rfl _ rfl h2 ?_
      exact ⟨rfl, h3 _ _ HBL.out (by omega)⟩
  · cases y
    · obtain rfl : (a, true) = q := by simpa using hq
      clear hq
      go_enter Tryz.func30, Tryz.ntmps30
      go_wp2_with (first
        | (refine wpList_loadRt rfl _ rfl _ rfl _ HA.out ?_)
        | (refine wpList_storeRt rfl _ _ rfl _ rfl a rfl _ HZ.out ?_; intro w2 h2 h3 h4 h5))
      refine ret_rt2 _ rfl rfl rfl _ rfl h2 ?_
      exact ⟨rfl, h3 _ _ HBL.out (by omega)⟩
    · by_cases hlt : (a.e : Int) < (b.e : Int)
      · obtain rfl : (b, true) = q := by rw [if_pos ⟨rfl, rfl, by omega⟩] at hq; exact hq
        clear hq
        go_enter Tryz.func30, Tryz.ntmps30
        go_wp2_with (first
          | (refine wpList_loadRt rfl _ rfl _ rfl _ HB.out ?_)
          | (refine wpList_storeRt rfl _ _ rfl _ rfl b rfl _ HZ.out ?_; intro w2 h2 h3 h4 h5))
        refine ret_rt2 _ rfl rfl rfl _ rfl h2 ?_
        exact ⟨rfl, h3 _ _ HBL.out (by omega)⟩
      · obtain rfl : (a, true) = q := by rw [if_neg (fun h => hlt (by have := h.2.2; omega)), if_pos rfl] at hq; exact hq
        clear hq
        go_enter Tryz.func30, Tryz.ntmps30
        go_wp2_with (first
          | (refine wpList_loadRt rfl _ rfl _ rfl _ HA.out ?_)
          | (refine wpList_storeRt rfl _ _ rfl _ rfl a rfl _ HZ.out ?_; intro w2 h2 h3 h4 h5))
        refine ret_rt2 _ rfl rfl rfl _ rfl h2 ?_
        exact ⟨rfl, h3 _ _ HBL.out (by omega)⟩
end Go.Proofs.YteeljcnmgfjcmaaGreatDoor

/-
  Package root: laid, Bytes by their contracts. Conditions: a root's numbers are those of 64 bits.
-/
namespace Go.Proofs.YteeljcnmgfjcmaaGreatDoor
open Go.RowKit Go.Maps
set_option maxRecDepth 100000

theorem at5 (W : World) (a b c d e : Int) : ((Instr.index 104 (.agg #[.int .u64 a, .int .u64 b, .int .u64 c, .int .u64 d, .int .u64 e]) (.int .i64 0)).run Tryz.prog W = .ok (.int .u64 a) W ∧ (Instr.index 104 (.agg #[.int .u64 a, .int .u64 b, .int .u64 c, .int .u64 d, .int .u64 e]) (.int .i64 1)).run Tryz.prog W = .ok (.int .u64 b) W) ∧
    (Instr.index 104 (.agg #[.int .u64 a, .int .u64 b, .int .u64 c, .int .u64 d, .int .u64 e]) (.int .i64 2)).run Tryz.prog W = .ok (.int .u64 c) W ∧ (Instr.index 104 (.agg #[.int .u64 a, .int .u64 b, .int .u64 c, .int .u64 d, .int .u64 e]) (.int .i64 3)).run Tryz.prog W = .ok (.int .u64 d) W ∧ (Instr.index 104 (.agg #[.int .u64 a, .int .u64 b, .int .u64 c, .int .u64 d, .int .u64 e]) (.int .i64 4)).run Tryz.prog W = .ok (.int .u64 e) W :=
  ⟨⟨by kernel_rfl, by kernel_rfl⟩, by kernel_rfl, by kernel_rfl, by kernel_rfl⟩
theorem at4 (W : World) (a b c d : Int) : ((Instr.index 37 (.agg #[.int .u64 a, .int .u64 b, .int .u64 c, .int .u64 d]) (.int .i64 0)).run Tryz.prog W = .ok (.int .u64 a) W ∧ (Instr.index 37 (.agg #[.int .u64 a, .int .u64 b, .int .u64 c, .int .u64 d]) (.int .i64 1)).run Tryz.prog W = .ok (.int .u64 b) W) ∧
    (Instr.index 37 (.agg #[.int .u64 a, .int .u64 b, .int .u64 c, .int .u64 d]) (.int .i64 2)).run Tryz.prog W = .ok (.int .u64 c) W ∧ (Instr.index 37 (.agg #[.int .u64 a, .int .u64 b, .int .u64 c, .int .u64 d]) (.int .i64 3)).run Tryz.prog W = .ok (.int .u64 d) W :=
  ⟨⟨by kernel_rfl, by kernel_rfl⟩, by kernel_rfl, by kernel_rfl⟩
set_option maxRecDepth 100000 in
set_option maxHeartbeats 4000000 in
theorem laid_any (w : World) (r : Rt) (h : r.Wf) : Calls Tryz.prog 41 #[.agg (rtV r)] w (Made w (rtB r)) := by
  have H := Lib.hid h
  have HB0 := Lib.hid (below_new w (.cells (rtV r) 39))
  obtain ⟨w0, hw0⟩ : ∃ w0, w.alloc (.cells (rtV r) 39) = w0 := ⟨_, rfl⟩
  have HX0 : Hid (RBox w0 w.heap.size r) := hw0 ▸ RBox.new w r
  have HW0 := Lib.hid hw0
  rw [hw0] at HB0
  unfold rtV at HW0 ⊢
  clear h hw0
  have E : Hid (∀ e w', Made w (((((((((([] : List UInt8) ++ wordB 8 r.e) ++ wordB 8 r.p) ++ wordB 8 r.t) ++ wordB 8 r.s) ++ wordB 8 r.l) ++ wordB 8 r.a) ++ wordB 8 r.b) ++ wordB 8 r.c) ++ wordB 8 r.d) e w' → Made w (rtB r) e w') := fun e w' h => made_list h (by simp [rtB])
  have i0 := fun W => (at5 W r.e r.p r.t r.s r.l).1.1
  have i1 := fun W => (at5 W r.e r.p r.t r.s r.l).1.2
  have i2 := fun W => (at5 W r.e r.p r.t r.s r.l).2.1
  have i3 := fun W => (at5 W r.e r.p r.t r.s r.l).2.2.1
  have i4 := fun W => (at5 W r.e r.p r.t r.s r.l).2.2.2
  have j0 := fun W => (at4 W r.a r.b r.c r.d).1.1
  have j1 := fun W => (at4 W r.a r.b r.c r.d).1.2
  have j2 := fun W => (at4 W r.a r.b r.c r.d).2.1
  have j3 := fun W => (at4 W r.a r.b r.c r.d).2.2
  go_enter Tryz.func41, Tryz.ntmps41
  go_wp2_with fail
  rw [HW0.out]
  refine wp_loop_rounds 6 ?_
  have HO : Hid (Own w0 w.heap.size 5 (.slice none 0 0) []) := World.ownsRow_nil _ _ _ 1
  rw [rounds_succ]
  go_wp2_with fail
  refine (word_is _ _ ([]) r.e 8 (HO.out.byt) H.out.e (by omega) (by simp)).mono ?_
  rintro e w1 ⟨v1, rfl, hown, hb⟩
  have HX1 := Lib.hid (HX0.out.below hb)
  have HB1 := Lib.hid (HB0.out.trans (hb.mono HB0.out.size))
  have HO1 := Lib.hid (hown.lower HB0.out.size)
  clear hown hb
  go_wp2_with fail
  rw [rounds_succ]
  go_wp2_with fail
  refine (word_is _ _ ([] ++ wordB 8 r.e) r.p 8 (HO1.out.byt) H.out.p (by omega) (by simp [wordB_len])).mono ?_
  rintro e w2 ⟨v2, rfl, hown, hb⟩
  have HX2 := Lib.hid (HX1.out.below hb)
  have HB2 := Lib.hid (HB1.out.trans (hb.mono HB1.out.size))
  have HO2 := Lib.hid (hown.lower HB1.out.size)
  clear hown hb
  go_wp2_with fail
  rw [rounds_succ]
  go_wp2_with fail
  refine (word_is _ _ (([] ++ wordB 8 r.e) ++ wordB 8 r.p) r.t 8 (HO2.out.byt) H.out.t (by omega) (by simp [wordB_len])).mono ?_
  rintro e w3 ⟨v3, rfl, hown, hb⟩
  have HX3 := Lib.hid (HX2.out.below hb)
  have HB3 := Lib.hid (HB2.out.trans (hb.mono HB2.out.size))
  have HO3 := Lib.hid (hown.lower HB2.out.size)
  clear hown hb
  go_wp2_with fail
  rw [rounds_succ]
  go_wp2_with fail
  refine (word_is _ _ ((([] ++ wordB 8 r.e) ++ wordB 8 r.p) ++ wordB 8 r.t) r.s 8 (HO3.out.byt) H.out.s (by omega) (by simp [wordB_len])).mono ?_
  rintro e w4 ⟨v4, rfl, hown, hb⟩
  have HX4 := Lib.hid (HX3.out.below hb)
  have HB4 := Lib.hid (HB3.out.trans (hb.mono HB3.out.size))
  have HO4 := Lib.hid (hown.lower HB3.out.size)
  clear hown hb
  go_wp2_with fail
  rw [rounds_succ]
  go_wp2_with fail
  refine (word_is _ _ (((([] ++ wordB 8 r.e) ++ wordB 8 r.p) ++ wordB 8 r.t) ++ wordB 8 r.s) r.l 8 (HO4.out.byt) H.out.l (by omega) (by simp [wordB_len])).mono ?_
  rintro e w5 ⟨v5, rfl, hown, hb⟩
  have HX5 := Lib.hid (HX4.out.below hb)
  have HB5 := Lib.hid (HB4.out.trans (hb.mono HB4.out.size))
  have HO5 := Lib.hid (hown.lower HB4.out.size)
  clear hown hb
  go_wp2_with fail
  rw [rounds_succ]
  obtain ⟨d0, d1, d2, d3, d4, d5, d6, d7, d8⟩ := HX5.out.cells
  go_wp2_with fail
  clear d0 d1 d2 d3 d4 d5 d6 d7 d8
  refine wp_loop_rounds 5 ?_
  rw [rounds_succ]
  go_wp2_with fail
  refine (word_is _ _ ((((([] ++ wordB 8 r.e) ++ wordB 8 r.p) ++ wordB 8 r.t) ++ wordB 8 r.s) ++ wordB 8 r.l) r.a 8 (HO5.out.byt) H.out.a (by omega) (by simp [wordB_len])).mono ?_
  rintro e w6 ⟨v6, rfl, hown, hb⟩
  have HX6 := Lib.hid (HX5.out.below hb)
  have HB6 := Lib.hid (HB5.out.trans (hb.mono HB5.out.size))
  have HO6 := Lib.hid (hown.lower HB5.out.size)
  clear hown hb
  go_wp2_with fail
  rw [rounds_succ]
  go_wp2_with fail
  refine (word_is _ _ (((((([] ++ wordB 8 r.e) ++ wordB 8 r.p) ++ wordB 8 r.t) ++ wordB 8 r.s) ++ wordB 8 r.l) ++ wordB 8 r.a) r.b 8 (HO6.out.byt) H.out.b (by omega) (by simp [wordB_len])).mono ?_
  rintro e w7 ⟨v7, rfl, hown, hb⟩
  have HX7 := Lib.hid (HX6.out.below hb)
  have HB7 := Lib.hid (HB6.out.trans (hb.mono HB6.out.size))
  have HO7 := Lib.hid (hown.lower HB6.out.size)
  clear hown hb
  go_wp2_with fail
  rw [rounds_succ]
  go_wp2_with fail
  refine (word_is _ _ ((((((([] ++ wordB 8 r.e) ++ wordB 8 r.p) ++ wordB 8 r.t) ++ wordB 8 r.s) ++ wordB 8 r.l) ++ wordB 8 r.a) ++ wordB 8 r.b) r.c 8 (HO7.out.byt) H.out.c (by omega) (by simp [wordB_len])).mono ?_
  rintro e w8 ⟨v8, rfl, hown, hb⟩
  have HX8 := Lib.hid (HX7.out.below hb)
  have HB8 := Lib.hid (HB7.out.trans (hb.mono HB7.out.size))
  have HO8 := Lib.hid (hown.lower HB7.out.size)
  clear hown hb
  go_wp2_with fail
  rw [rounds_succ]
  go_wp2_with fail
  refine (word_is _ _ (((((((([] ++ wordB 8 r.e) ++ wordB 8 r.p) ++ wordB 8 r.t) ++ wordB 8 r.s) ++ wordB 8 r.l) ++ wordB 8 r.a) ++ wordB 8 r.b) ++ wordB 8 r.c) r.d 8 (HO8.out.byt) H.out.d (by omega) (by simp [wordB_len])).mono ?_
  rintro e w9 ⟨v9, rfl, hown, hb⟩
  have HX9 := Lib.hid (HX8.out.below hb)
  have HB9 := Lib.hid (HB8.out.trans (hb.mono HB8.out.size))
  have HO9 := Lib.hid (hown.lower HB8.out.size)
  clear hown hb
  go_wp2_with fail
  rw [rounds_succ]
  go_wp2_with fail
  go_ret
  exact E.out _ _ (made_mk HO9.out HB9.out)
end Go.Proofs.YteeljcnmgfjcmaaGreatDoor

/-
  Package root: Bytes by its contract. Conditions: a root's numbers are those of 64 bits.
-/
namespace Go.Proofs.YteeljcnmgfjcmaaGreatDoor
open Go.RowKit Go.Maps
set_option maxRecDepth 100000

set_option maxRecDepth 100000 in
set_option maxHeartbeats 4000000 in
theorem rbytes_bad (w : World) (r : Rt) (h : ¬ okR r) : Calls Tryz.prog 20 #[.agg (rtV r)] w (Refused w 2) := by
  obtain ⟨w0, hw0⟩ : ∃ w0, w.alloc (.cells (rtV r) 39) = w0 := ⟨_, rfl⟩
  have HX0 : Hid (RBox (w.alloc (.cells (rtV r) 39)) w.heap.size r) := RBox.new w r
  have HB0 : Hid (Below w.heap.size w w0) := hw0 ▸ below_new w _
  have HW0 := Lib.hid hw0
  have HC : Hid (checkN r = 2) := if_neg h
  clear hw0 h
  go_enter Tryz.func20, Tryz.ntmps20
  go_wp2_with (refine wpList_loadRt rfl _ rfl _ rfl _ HX0.out ?_)
  rw [HW0.out]
  refine (check_any _ r).mono ?_
  rintro e w1 ⟨rfl, hb1⟩
  rw [HC.out]
  go_wp2_with fail
  go_ret2
  exact ⟨rfl, HB0.out.trans (hb1.mono HB0.out.size)⟩
set_option maxRecDepth 100000 in
set_option maxHeartbeats 4000000 in
theorem rbytes_ok (w : World) (r : Rt) (hwf : r.Wf) (h : okR r) : Calls Tryz.prog 20 #[.agg (rtV r)] w (MadeE w (rootB r)) := by
  obtain ⟨w0, hw0⟩ : ∃ w0, w.alloc (.cells (rtV r) 39) = w0 := ⟨_, rfl⟩
  have HX0 : Hid (RBox (w.alloc (.cells (rtV r) 39)) w.heap.size r) := RBox.new w r
  have HB0 : Hid (Below w.heap.size w w0) := hw0 ▸ below_new w _
  have HW0 := Lib.hid hw0
  have HC : Hid (checkN r = 0) := if_pos h
  have HF := Lib.hid hwf
  have HE : Hid (IntKind.u32.wrap (r.e : Int) = ((r.e % 4294967296 : Nat) : Int)) := by rw [Hid, IntKind.wrap_u32]; omega
  clear hw0 h hwf
  go_enter Tryz.func20, Tryz.ntmps20
  go_wp2_with (refine wpList_loadRt rfl _ rfl _ rfl _ HX0.out ?_)
  rw [HW0.out] at HX0 ⊢
  refine (check_any _ r).mono ?_
  rintro e w1 ⟨rfl, hb1⟩
  rw [HC.out]
  have HX1 : Hid (RBox w1.drew w.heap.size r) := (HX0.out.below hb1 : RBox w1 _ _)
  have HB1 : Hid (Below w.heap.size w w1.drew) := (HB0.out.trans (hb1.mono HB0.out.size)).drew
  clear hb1
  go_wp2_with fail
  refine wp_region_R (R := fun x y => Below x.heap.size x y) (by kernel_rfl) (fun _ => Below.refl _ _) (fun h k => h.trans (k.mono h.size)) (by kernel_rfl) (fun d v c a w h => by cases d <;> exact h)
    [(0, false), (1, false), (2, false), (3, false), (4, true), (5, false), (6, true), (7, false), (8, false), (9, false), (10, false)] rfl (by kernel_rfl) (by kernel_rfl) ?_
  simp only [sel, List.getElem?_toArray, List.getElem?_cons_succ, List.getElem?_cons_zero]
  generalize w1.drew = wd at *
  (refine sch_take ?_ rfl ?_ ?_; rotate_left; (focus (intro u hu; go_simp <;> rfl)); simp only [Act.put, List.setIfInBounds_toArray, List.set_cons_zero, List.set_cons_succ])
  (refine sch_take ?_ rfl ?_ ?_; rotate_left; (focus (intro u hu; have cc := (HX1.out.below hu).cells.1; clear hu; go_simp <;> rfl)); simp only [Act.put, List.setIfInBounds_toArray, List.set_cons_zero, List.set_cons_succ])
  (refine sch_take ?_ rfl ?_ ?_; rotate_left; (focus (intro u hu; go_simp <;> rfl)); simp only [Act.put, List.setIfInBounds_toArray, List.set_cons_zero, List.set_cons_succ])
  refine sch_take (.agg (rtV r)) rfl (fun u hu => exec_loadRt _ rfl _ rfl (HX1.out.below hu)) ?_
  simp only [Act.put, List.setIfInBounds_toArray, List.set_cons_zero, List.set_cons_succ]
  refine sch_call rfl ?_
  intro K hK
  go_simp
  refine (laid_any _ r HF.out).mono ?_
  rintro e w2 ⟨v2, rfl, hown2, hb2⟩
  go_wp2_with fail
  refine hK _ _ hb2 ?_
  clear hK K
  have HB2 := Lib.hid (HB1.out.trans (hb2.mono HB1.out.size))
  have HO2 := Lib.hid hown2
  obtain ⟨A2, n2, c2, rfl, N2, hnc2, hcm2⟩ := hown2.byt.form
  clear hown2 hb2
  (refine sch_take ?_ rfl ?_ ?_; rotate_left; (focus (intro u hu; go_simp <;> rfl)); simp only [Act.put, List.setIfInBounds_toArray, List.set_cons_zero, List.set_cons_succ])
  refine sch_call rfl ?_
  intro K hK
  go_simp
  rw [HE.out]
  refine (bytes_ok _ 1 (r.e % 4294967296) _ (rtB r) HO2.out.byt (by omega) (by omega) (by rw [rtB_len]; omega) (by omega)).mono ?_
  rintro e w3 ⟨v3, rfl, hown3, hb3⟩
  go_wp2_with fail
  refine hK _ _ hb3 ?_
  clear hK K
  have HB3 := Lib.hid (HB2.out.trans (hb3.mono HB2.out.size))
  have HO3 := Lib.hid (hown3.lower HB2.out.size)
  obtain ⟨A3, n3, c3, rfl, N3, hnc3, hcm3⟩ := hown3.byt.form
  clear hown3 hb3
  iterate 4 (refine sch_take ?_ rfl ?_ ?_; rotate_left; (focus (intro u hu; go_simp <;> rfl)); simp only [Act.put, List.setIfInBounds_toArray, List.set_cons_zero, List.set_cons_succ])
  refine sch_nil ?_
  go_wp2_with fail
  go_ret2
  exact ⟨_, rfl, HO3.out, HB3.out⟩
end Go.Proofs.YteeljcnmgfjcmaaGreatDoor

/-
  Package root: told by its contract. Conditions: a body of 72 bytes at least.
-/
namespace Go.Proofs.YteeljcnmgfjcmaaGreatDoor
open Go.RowKit Go.Maps
set_option maxRecDepth 100000

theorem enterT1 : ∀ args W, (callFunc 76 args).run Tryz.prog W = .ok (.enter 76 args) W := fun _ _ => rfl
/-- The next word is told. -/
def NextW (w : World) (g n : Nat) (l : List UInt8) (e : Ending) (w' : World) : Prop := e = .returned (.int .u64 (n : Int)) ∧ Rdr w' g l 0 ∧ w.grownBy w' (some g)
theorem told1_is (w : World) (db g : Nat) (l : List UInt8) (hd : One w db (.pointer (some ⟨g, 0, none⟩)) 109) (hr : Rdr w g l 0) (hl : 8 ≤ l.length) (hl2 : l.length ≤ 70368744177664) :
    Calls Tryz.prog 76 #[.pointer (some ⟨db, 0, none⟩)] w (NextW w g (wAt l 0) (l.drop 8)) := by
  have c := hd.cell
  have HR := Lib.hid (rword_is w g 0 l 8 hr hl2)
  rw [wordR_at hl] at HR
  clear hr hd hl
  generalize wAt l 0 = x at *
  go_enter Tryz.func76, Tryz.ntmps76
  go_wp2_with fail
  refine HR.out.mono ?_
  rintro e w1 ⟨rfl, h1, h2⟩
  go_wp2_with fail
  go_ret
  exact ⟨rfl, h1, h2⟩
/-- A root that is told. -/
def RtE (w : World) (r : Rt) (e : Ending) (w' : World) : Prop := e = .returned (.agg (rtV r)) ∧ Below w.heap.size w w'
/-- Where told's words are read: k of them. -/
structure ToldSt (w u : World) (db g k : Nat) (l : List UInt8) : Prop where
  box : RBox u w.heap.size zeroR
  one : One u db (.pointer (some ⟨g, 0, none⟩)) 109
  rdr : Rdr u g (l.drop (8 * k)) 0
  bel : Below w.heap.size w u
  hg : w.heap.size < g
  ne : db ≠ g
theorem ToldSt.next {w u u' : World} {db g k n : Nat} {l : List UInt8} {e : Ending} (h : ToldSt w u db g k l) (hn : NextW u g n ((l.drop (8 * k)).drop 8) e u') : ToldSt w u' db g (k + 1) l := by
  obtain ⟨_, hr, hg⟩ := hn
  rw [List.drop_drop, show 8 * k + 8 = 8 * (k + 1) by omega] at hr
  exact ⟨(hg.block _ h.box.lt (by have := h.hg; simp; omega)).trans h.box, (hg.block _ h.one.lt (by have := h.ne; simp; exact h.ne)).trans h.one, hr, h.bel.grown hg h.bel.size (fun k e => by injection e with e; have := h.hg; omega), h.hg, h.ne⟩
theorem ToldSt.call {w u : World} {db g k : Nat} {l : List UInt8} (h : ToldSt w u db g k l) (hl : 72 ≤ l.length) (hl2 : l.length ≤ 70368744177664) (hk : k < 9) :
    Calls Tryz.prog 76 #[.pointer (some ⟨db, 0, none⟩)] u fun e u' => e = .returned (.int .u64 (wAt l k : Int)) ∧ ToldSt w u' db g (k + 1) l := by
  have hx : wAt (l.drop (8 * k)) 0 = wAt l k := by
    unfold wAt
    rw [List.drop_drop, Nat.mul_zero, Nat.add_zero]
  refine (told1_is u db g _ h.one h.rdr (by rw [List.length_drop]; omega) (by rw [List.length_drop]; omega)).mono ?_
  intro e u' hn
  exact ⟨by rw [← hx]; exact hn.1, h.next hn⟩
set_option maxRecDepth 100000 in
set_option maxHeartbeats 4000000 in
theorem told_any (w : World) (v : Value) (l : List UInt8) (hv : Byt w v l) (hl : 72 ≤ l.length) (hl2 : l.length ≤ 70368744177664) :
    Calls Tryz.prog 54 #[v] w (RtE w (toldR l)) := by
  have hmf : ∀ (fn : Fn) (first cap : Array Value) (w : World), (Instr.makeFunc fn first cap).run Tryz.prog w = .ok (.func fn first cap) w := fun _ _ _ _ => rfl
  have Z := rtZero
  obtain ⟨A, m, c, rfl, N, hnc, hcm⟩ := hv.form
  obtain ⟨w0, hw0⟩ : ∃ w0, w.alloc (.cells (rtV zeroR) 39) = w0 := ⟨_, rfl⟩
  have HX0 : Hid (RBox w0 w.heap.size zeroR) := hw0 ▸ RBox.new w zeroR
  have HB0 : Hid (Below w.heap.size w w0) := hw0 ▸ below_new w _
  have HV0 := Lib.hid (hv.below HB0.out)
  have HW0 := Lib.hid hw0
  have HL := Lib.hid hl
  have HL2 := Lib.hid hl2
  clear hv hw0 hl hl2
  go_enter Tryz.func54, Tryz.ntmps54
  go_wp2_with fail
  rw [HW0.out]
  refine (new_any _ _ _ HV0.out HL2.out).mono ?_
  rintro e w1 ⟨g, rfl, hg, hr1, hb1⟩
  obtain ⟨w2, hw2⟩ : ∃ w2, w1.alloc (.cells #[.pointer (some ⟨g, 0, none⟩)] 109) = w2 := ⟨_, rfl⟩
  have hb2 : Below w1.heap.size w1 w2 := hw2 ▸ below_new w1 _
  have ho2 : One w2 w1.heap.size (.pointer (some ⟨g, 0, none⟩)) 109 := hw2 ▸ of_box
  have hb12 := hb1.trans (hb2.mono hb1.size)
  have H0 : Hid (ToldSt w w2 w1.heap.size g 0 l) := ⟨HX0.out.below hb12, ho2, by simpa using hr1.below hb2, HB0.out.trans (hb12.mono HB0.out.size), by have := HX0.out.lt; omega, by have := hr1.lt; omega⟩
  have HW2 := Lib.hid hw2
  clear hg hr1 hb1 hb2 ho2 hb12 hw2
  go_wp2_with fail
  rw [HW2.out]
  refine (H0.out.call HL.out HL2.out (by omega)).mono ?_
  rintro e u0 ⟨rfl, hs⟩
  have H1 := Lib.hid hs
  clear hs
  go_wp2_with fail
  refine (H1.out.call HL.out HL2.out (by omega)).mono ?_
  rintro e u1 ⟨rfl, hs⟩
  have H2 := Lib.hid hs
  clear hs
  go_wp2_with fail
  refine (H2.out.call HL.out HL2.out (by omega)).mono ?_
  rintro e u2 ⟨rfl, hs⟩
  have H3 := Lib.hid hs
  clear hs
  go_wp2_with fail
  refine (H3.out.call HL.out HL2.out (by omega)).mono ?_
  rintro e u3 ⟨rfl, hs⟩
  have H4 := Lib.hid hs
  clear hs
  go_wp2_with fail
  refine (H4.out.call HL.out HL2.out (by omega)).mono ?_
  rintro e u4 ⟨rfl, hs⟩
  have H5 := Lib.hid hs
  clear hs
  go_wp2_with fail
  refine (H5.out.call HL.out HL2.out (by omega)).mono ?_
  rintro e u5 ⟨rfl, hs⟩
  have H6 := Lib.hid hs
  clear hs
  go_wp2_with fail
  refine (H6.out.call HL.out HL2.out (by omega)).mono ?_
  rintro e u6 ⟨rfl, hs⟩
  have H7 := Lib.hid hs
  clear hs
  go_wp2_with fail
  refine (H7.out.call HL.out HL2.out (by omega)).mono ?_
  rintro e u7 ⟨rfl, hs⟩
  have H8 := Lib.hid hs
  clear hs
  go_wp2_with fail
  refine (H8.out.call HL.out HL2.out (by omega)).mono ?_
  rintro e u8 ⟨rfl, hs⟩
  have H9 := Lib.hid hs
  clear hs
  obtain ⟨r, hr⟩ : ∃ r, toldR l = r := ⟨_, rfl⟩
  have hx : wAt l 0 = r.e ∧ wAt l 1 = r.p ∧ wAt l 2 = r.t ∧ wAt l 3 = r.s ∧ wAt l 4 = r.l ∧ wAt l 5 = r.a ∧ wAt l 6 = r.b ∧ wAt l 7 = r.c ∧ wAt l 8 = r.d := by rw [← hr]; exact ⟨rfl, rfl, rfl, rfl, rfl, rfl, rfl, rfl, rfl⟩
  obtain ⟨x0, x1, x2, x3, x4, x5, x6, x7, x8⟩ := hx
  have HR := Lib.hid hr
  rw [x0, x1, x2, x3, x4, x5, x6, x7, x8]
  clear x0 x1 x2 x3 x4 x5 x6 x7 x8 hr
  go_wp2_with (with_reducible (show wpList _ _ _ (⟨_, Op.store _ _ _, _, _, _, _⟩ :: _) _ _); refine wpList_storeRt rfl _ _ rfl _ rfl r rfl _ H9.out.box ?_; intro w9 h2 h3 h4 h5)
  refine ret_rt1 _ rfl rfl rfl h2 ?_
  exact ⟨by rw [HR.out], h3 _ _ H9.out.bel (Nat.le_refl _)⟩
end Go.Proofs.YteeljcnmgfjcmaaGreatDoor

/-
  Package root: Read by its contract. Conditions: none.
-/
namespace Go.Proofs.YteeljcnmgfjcmaaGreatDoor
open Go.RowKit Go.Maps
set_option maxRecDepth 100000

/-- A root, and an error, told. -/
def RtN (w : World) (r : Rt) (n : Nat) (e : Ending) (w' : World) : Prop := e = .returned (.tuple #[.agg (rtV r), .int .i64 (n : Int)]) ∧ Below w.heap.size w w'
set_option maxRecDepth 100000 in
set_option maxHeartbeats 4000000 in
theorem rread_not (w : World) (v : Value) (b : List UInt8) (hv : Byt w v b) (h : ¬ okB b) : Calls Tryz.prog 29 #[v] w (RtN w zeroR 4) := by
  have Z := rtZero
  obtain ⟨A, m, c, rfl, N, hnc, hcm⟩ := hv.form
  obtain ⟨w0, hw0⟩ : ∃ w0, w.alloc (.cells (rtV zeroR) 39) = w0 := ⟨_, rfl⟩
  have HX0 : Hid (RBox w0 w.heap.size zeroR) := hw0 ▸ RBox.new w zeroR
  have HB0 : Hid (Below w.heap.size w w0) := hw0 ▸ below_new w _
  have HV0 := Lib.hid (hv.below HB0.out)
  have HW0 := Lib.hid hw0
  clear hv hw0
  go_enter Tryz.func29, Tryz.ntmps29
  go_wp2_with fail
  rw [HW0.out]
  refine (read_bad _ _ b HV0.out h).mono ?_
  rintro e w1 ⟨rfl, hb1⟩
  have hb2 := hb1.trans ((below_new w1 (.cells (pageV 0 0 (.slice none 0 0)) 83)).mono hb1.size)
  have HX2 := Lib.hid (HX0.out.below hb2)
  have HB2 := Lib.hid (HB0.out.trans (hb2.mono HB0.out.size))
  clear hb1 hb2
  unfold pageV at *
  go_wp2_with (with_reducible (show wpList _ _ _ (⟨_, Op.store 39 _ _, _, _, _, _⟩ :: _) _ _); refine wpList_storeRt rfl _ _ rfl _ rfl zeroR rfl _ HX2.out ?_; intro w9 h2 h3 h4 h5)
  refine ret_rt2 _ rfl rfl rfl _ rfl h2 ?_
  exact ⟨rfl, h3 _ _ HB2.out (Nat.le_refl _)⟩
set_option maxRecDepth 100000 in
set_option maxHeartbeats 4000000 in
theorem rread_page (w : World) (v : Value) (b : List UInt8) (hv : Byt w v b) (h : okB b) (r : Rt) (hr : toldR (b.drop 16) = r) (hwf : r.Wf) (q : Rt) (n : Nat)
    (hq : okR r ∧ rootB r = b ∧ q = r ∧ n = 0 ∨ okR r ∧ rootB r ≠ b ∧ q = zeroR ∧ n = 4 ∨ ¬ okR r ∧ q = zeroR ∧ n = 4) : Calls Tryz.prog 29 #[v] w (RtN w q n) := by
  have Z := rtZero
  have hl := h.1.1
  obtain ⟨A, m, c, rfl, N, hnc, hcm⟩ := hv.form
  obtain ⟨w0, hw0⟩ : ∃ w0, w.alloc (.cells (rtV zeroR) 39) = w0 := ⟨_, rfl⟩
  have HX0 : Hid (RBox w0 w.heap.size zeroR) := hw0 ▸ RBox.new w zeroR
  have HB0 : Hid (Below w.heap.size w w0) := hw0 ▸ below_new w _
  have HV0 := Lib.hid (hv.below HB0.out)
  have HW0 := Lib.hid hw0
  have HR := Lib.hid hr
  have HF := Lib.hid hwf
  have HQ := Lib.hid hq
  have HL : Hid (b.length = 4096) := hl
  clear hv hw0 hr hwf hq hl
  go_enter Tryz.func29, Tryz.ntmps29
  go_wp2_with fail
  rw [HW0.out]
  refine (read_ok _ _ b HV0.out h).mono ?_
  rintro e w1 ⟨v1, rfl, hown1, hb1⟩
  obtain ⟨A1, n1, c1, rfl, N1, hnc1, hcm1⟩ := hown1.byt.form
  generalize ((b.getD 3 0).toNat : Int) = kd at *
  generalize ((numW b : Nat) : Int) = nm at *
  obtain ⟨w2, hw2⟩ : ∃ w2, w1.alloc (.cells (pageV kd nm (.slice A1 n1 c1)) 83) = w2 := ⟨_, rfl⟩
  have hb12 : Below w1.heap.size w1 w2 := hw2 ▸ below_new w1 _
  have hb2 : Below w0.heap.size w0 w2 := hb1.trans (hb12.mono hb1.size)
  have HX2 := Lib.hid (HX0.out.below hb2)
  have HB2 := Lib.hid (HB0.out.trans (hb2.mono HB0.out.size))
  have HV2 := Lib.hid (HV0.out.below hb2)
  have HO2 := Lib.hid (hown1.byt.below hb12)
  have d2 := (hw2 ▸ Box.new w1 kd nm (.slice A1 n1 c1) : Box w2 _ _ _ _).cells.2.2
  rw [← hw2] at d2
  have HW2 := Lib.hid hw2
  clear hown1 hb1 hb12 hb2 hw2
  unfold pageV at *
  go_wp2_with fail
  clear d2
  rw [HW2.out]
  refine (told_any _ _ _ HO2.out (by rw [List.length_drop]; have := HL.out; omega) (by rw [List.length_drop]; have := HL.out; omega)).mono ?_
  rintro e w3 ⟨rfl, hb3⟩
  rw [HR.out]
  have HX3 := Lib.hid (HX2.out.below hb3)
  have HB3 := Lib.hid (HB2.out.trans (hb3.mono HB2.out.size))
  have HV3 := Lib.hid (HV2.out.below hb3)
  clear hb3
  go_wp2_with (first
    | (with_reducible (show wpList _ _ _ (⟨_, Op.store 39 _ _, _, _, _, _⟩ :: _) _ _); refine wpList_storeNewRt zeroR r rfl _ _ rfl rfl rfl ?_; intro w4 hx4 hb4 hlt4; have HX4 := Lib.hid (HX3.out.below hb4); have HB4 := Lib.hid (HB3.out.trans (hb4.mono HB3.out.size)); have HV4 := Lib.hid (HV3.out.below hb4); have HY4 := Lib.hid hx4; clear hx4 hb4 hlt4)
    | (with_reducible (show wpList _ _ _ (⟨_, Op.load 39 _, _, _, _, _⟩ :: _) _ _); refine wpList_loadRt rfl _ rfl _ rfl _ HY4.out ?_))
  rcases HQ.out with ⟨hok, hb, rfl, rfl⟩ | ⟨hok, hb, rfl, rfl⟩ | ⟨hok, rfl, rfl⟩
  · refine (rbytes_ok _ q HF.out hok).mono ?_
    rintro e w5 ⟨v5, rfl, hown5, hb5⟩
    have HX5 := Lib.hid (HX4.out.below hb5)
    have HB5 := Lib.hid (HB4.out.trans (hb5.mono HB4.out.size))
    have HV5 := Lib.hid (HV4.out.below hb5)
    have HY5 := Lib.hid (HY4.out.below hb5)
    have HO5 := Lib.hid hown5.byt
    obtain ⟨A5, n5, c5, rfl, N5, hnc5, hcm5⟩ := hown5.byt.form
    have HE : Hid (decide (rootB q = b) = true) := decide_eq_true hb
    clear hown5 hb5 hb
    go_wp2_with fail
    refine (equal_any _ _ _ _ _ HO5.out HV5.out).mono ?_
    rintro e w6 ⟨rfl, rfl⟩
    rw [HE.out]
    go_wp2_with (first
      | (with_reducible (show wpList _ _ _ (⟨_, Op.load 39 _, _, _, _, _⟩ :: _) _ _); refine wpList_loadRt rfl _ rfl _ rfl _ HY5.out ?_)
      | (with_reducible (show wpList _ _ _ (⟨_, Op.store 39 _ _, _, _, _, _⟩ :: _) _ _); refine wpList_storeRt rfl _ _ rfl _ rfl q rfl _ HX5.out ?_; intro w9 h2 h3 h4 h5))
    refine ret_rt2 _ rfl rfl rfl _ rfl h2 ?_
    exact ⟨rfl, h3 _ _ HB5.out (Nat.le_refl _)⟩
  · refine (rbytes_ok _ r HF.out hok).mono ?_
    rintro e w5 ⟨v5, rfl, hown5, hb5⟩
    have HX5 := Lib.hid (HX4.out.below hb5)
    have HB5 := Lib.hid (HB4.out.trans (hb5.mono HB4.out.size))
    have HV5 := Lib.hid (HV4.out.below hb5)
    have HO5 := Lib.hid hown5.byt
    obtain ⟨A5, n5, c5, rfl, N5, hnc5, hcm5⟩ := hown5.byt.form
    have HE : Hid (decide (rootB r = b) = false) := decide_eq_false hb
    clear hown5 hb5 hb
    go_wp2_with fail
    refine (equal_any _ _ _ _ _ HO5.out HV5.out).mono ?_
    rintro e w6 ⟨rfl, rfl⟩
    rw [HE.out]
    go_wp2_with (with_reducible (show wpList _ _ _ (⟨_, Op.store 39 _ _, _, _, _, _⟩ :: _) _ _); refine wpList_storeRt rfl _ _ rfl _ rfl zeroR rfl _ HX5.out ?_; intro w9 h2 h3 h4 h5)
    refine ret_rt2 _ rfl rfl rfl _ rfl h2 ?_
    exact ⟨rfl, h3 _ _ HB5.out (Nat.le_refl _)⟩
  · refine (rbytes_bad _ r hok).mono ?_
    rintro e w5 ⟨rfl, hb5⟩
    have HX5 := Lib.hid (HX4.out.below hb5)
    have HB5 := Lib.hid (HB4.out.trans (hb5.mono HB4.out.size))
    clear hb5
    go_wp2_with (with_reducible (show wpList _ _ _ (⟨_, Op.store 39 _ _, _, _, _, _⟩ :: _) _ _); refine wpList_storeRt rfl _ _ rfl _ rfl zeroR rfl _ HX5.out ?_; intro w9 h2 h3 h4 h5)
    refine ret_rt2 _ rfl rfl rfl _ rfl h2 ?_
    exact ⟨rfl, h3 _ _ HB5.out (Nat.le_refl _)⟩
/-- What Read answers: the root, or none and ErrBad. -/
def readQ (b : List UInt8) : Rt × Nat := match readRt b with
  | some r => (r, 0)
  | none => (zeroR, 4)
theorem readQ_some {b : List UInt8} {r : Rt} (h : readRt b = some r) : readQ b = (r, 0) := by unfold readQ; rw [h]
theorem readQ_none {b : List UInt8} (h : readRt b = none) : readQ b = (zeroR, 4) := by unfold readQ; rw [h]
theorem rread_any (w : World) (v : Value) (b : List UInt8) (hv : Byt w v b) : Calls Tryz.prog 29 #[v] w (RtN w (readQ b).1 (readQ b).2) := by
  by_cases h : okB b
  · refine rread_page w v b hv h _ rfl (toldR_wf _) _ _ ?_
    by_cases hk : okR (toldR (b.drop 16))
    · by_cases he : rootB (toldR (b.drop 16)) = b
      · have := readQ_some (b := b) (r := toldR (b.drop 16)) (by unfold readRt; rw [if_pos ⟨h, hk, he⟩])
        rw [this]
        exact .inl ⟨hk, he, rfl, rfl⟩
      · have := readQ_none (b := b) (by unfold readRt; rw [if_neg (fun k => he k.2.2)])
        rw [this]
        exact .inr (.inl ⟨hk, he, rfl, rfl⟩)
    · have := readQ_none (b := b) (by unfold readRt; rw [if_neg (fun k => hk k.2.1)])
      rw [this]
      exact .inr (.inr ⟨hk, rfl, rfl⟩)
  · rw [readQ_none (readRt_none h)]
    exact rread_not w v b hv h
end Go.Proofs.YteeljcnmgfjcmaaGreatDoor

