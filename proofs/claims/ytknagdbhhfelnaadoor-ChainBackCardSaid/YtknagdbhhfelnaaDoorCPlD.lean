/-
  Package pool: makeRoom by its contract. Conditions: none but that the pool lies there.
-/
import Derived.Test.YtknagdbhhfelnaaDoorCPlC
import Derived.WalkMore
namespace Go.Proofs.YtknagdbhhfelnaaDoor
open Go.RowKit Go.Maps
set_option maxRecDepth 100000

def stepH (P : PSt) : PSt := ⟨P.fr, (P.hand + 1) % P.fr.length, P.s⟩
def tiredQ (P : PSt) : PSt := ⟨P.fr.set P.hand { P.fr.getD P.hand zeroF with used := false }, P.hand, P.s⟩
/-- By the hand: the error, the frame, what the pool is then. -/
def clockQ : Nat → PSt → Nat × Nat × PSt
  | 0, P => (9, 0, P)
  | k + 1, P => if 0 < (P.fr.getD P.hand zeroF).pins then clockQ k (stepH P) else if (P.fr.getD P.hand zeroF).used = true then clockQ k (stepH (tiredQ P))
    else if (vacQ P P.hand).1 = 0 then (0, P.hand, stepH (vacQ P P.hand).2) else ((vacQ P P.hand).1, 0, (vacQ P P.hand).2)
def roomQ (P : PSt) : Nat × Nat × PSt := if emptyF P.fr < P.fr.length then (0, emptyF P.fr, P) else clockQ (2 * P.fr.length) P
theorem vacQ_len (P : PSt) (i : Nat) : (vacQ P i).2.fr.length = P.fr.length := by
  unfold vacQ
  split
  · simp [saveQ_len]
  · exact saveQ_len P i
theorem clockQ_len : ∀ (k : Nat) (P : PSt), (clockQ k P).2.2.fr.length = P.fr.length
  | 0, _ => rfl
  | k + 1, P => by
    unfold clockQ
    split
    · exact clockQ_len k _
    · split
      · rw [clockQ_len k]; simp [stepH, tiredQ]
      · split
        · exact vacQ_len P _
        · exact vacQ_len P _
theorem roomQ_len (P : PSt) : (roomQ P).2.2.fr.length = P.fr.length := by
  unfold roomQ
  split
  · rfl
  · exact clockQ_len _ P
theorem clockQ_lt : ∀ (k : Nat) (P : PSt), P.hand < P.fr.length → (clockQ k P).2.1 < P.fr.length
  | 0, P, h => by have : 0 < P.fr.length := by omega
                  exact this
  | k + 1, P, h => by
    have hm : ∀ x, x % P.fr.length < P.fr.length := fun x => Nat.mod_lt _ (by omega)
    unfold clockQ
    split
    · exact clockQ_lt k (stepH P) (hm _)
    · split
      · have := clockQ_lt k (stepH (tiredQ P)) (by simp [stepH, tiredQ]; exact hm _)
        simpa [stepH, tiredQ] using this
      · split
        · exact h
        · show 0 < P.fr.length
          omega
theorem roomQ_lt {P : PSt} (h : P.hand < P.fr.length) : (roomQ P).2.1 < P.fr.length := by
  unfold roomQ
  split
  · assumption
  · exact clockQ_lt _ P h
/-- What a call that answers a frame and an error leaves. -/
def ROut (w : World) (T : Nat → Prop) (p d fb : Nat) (r : Nat × Nat × PSt) (e : Ending) (w' : World) : Prop :=
  e = .returned (.tuple #[.pointer (if r.1 = 0 then some ⟨fb, r.2.1 * 6, none⟩ else none), .int .i64 (r.1 : Int)]) ∧ PAt w' (more T w w') p d fb r.2.2 ∧ Trn T w w'
section
variable {w w' : World} {S T : Nat → Prop} {p d fb hand : Nat} {l : List (Fr × Value)} {s : St}
theorem PAtL.up {w0 wr wd : World} (h : PAtL w' S (more T w0 wr) p d fb l hand s) (hl : ∀ k, T k → k < w0.heap.size) (h0 : w0.heap.size ≤ wd.heap.size) (hr : wr.heap.size ≤ w'.heap.size) (hd : wd.heap.size ≤ w'.heap.size) : PAtL w' S (more T w0 w') p d fb l hand s :=
  h.wide (fun k hk => hk.elim .inl (fun e => .inr ⟨e.1, by omega⟩)) (fun k hk => hk.elim (fun e => by have := hl k e; omega) (fun e => e.2))
theorem more_two {w0 wr wd w1 w2 : World} (h0 : w0.heap.size ≤ wd.heap.size) (h1 : wr.heap.size ≤ w2.heap.size) (h2 : w1.heap.size ≤ w2.heap.size) : ∀ k, more (more T w0 wr) wd w1 k → more T w0 w2 k := fun k hk =>
  hk.elim (fun e => e.elim .inl (fun e => .inr ⟨e.1, by omega⟩)) (fun e => .inr ⟨by omega, by omega⟩)
def NoneRel (w : World) (l : List (Fr × Value)) (i : Value) (wr : World) : Prop := ∃ k : Nat, k ≤ l.length ∧ i = .int .i64 (k : Int) ∧ w = wr ∧ ∀ j (hj : j < l.length), j < k → noneF l[j].1 = false
def ClockRel (w : World) (T : Nat → Prop) (p d fb n : Nat) (P : PSt) (i : Value) (wr : World) : Prop := ∃ (k : Nat) (Q : PSt), k ≤ 2 * n ∧ i = .int .i64 (k : Int) ∧ PAt wr (more T w wr) p d fb Q ∧ Trn T w wr ∧ Q.fr.length = n ∧ clockQ (2 * n) P = clockQ (2 * n - k) Q
set_option maxHeartbeats 1000000 in
theorem proom_is {P : PSt} (h : PAt w T p d fb P) :
    Calls Tryd.prog 39 #[.pointer (some ⟨p, 0, none⟩)] w (ROut w T p d fb (roomQ P)) := by
  have HPA := Lib.hid h
  obtain ⟨S, l, h, hf⟩ := h
  obtain ⟨c0, c1, c2, c3⟩ := h.cells
  have h256 := h.n256
  have h8 := h.n8
  have H := Lib.hid h
  have HF := Lib.hid hf
  have HLT := Lib.hid h.lt
  clear h hf
  go_enter Tryd.func39, Tryd.ntmps39
  go_wp2_with fail
  go_step3
  go_wp2_with fail
  go_loopw [14] (fun i wr => NoneRel w l i wr) (fun i _ => l.length - (intOf i).toNat)
  case atStart => exact ⟨0, by omega, rfl, rfl, fun j _ hj => by omega⟩
  case round =>
    obtain ⟨k, hk, rfl, rfl, hno⟩ := hrel
    have HN := Lib.hid hno
    clear hno
    by_cases hlt : k < l.length
    · have hkn : (k : Int) < (l.length : Int) := by omega
      obtain ⟨d0, _⟩ := H.out.at hlt
      have HQ : Hid (noneF l[k].1 = !l[k].1.is) := rfl
      have HNX : Hid (noneF l[k].1 = false → ∀ j (hj : j < l.length), j < k + 1 → noneF l[j].1 = false) := fun hf j hj hjk => by
        rcases Nat.lt_succ_iff_lt_or_eq.1 hjk with h1 | rfl
        · exact HN.out j hj h1
        · exact hf
      generalize l[k].1.is = b at *
      cases b
      · have HE : Hid (emptyF P.fr = k) := by
          rw [Hid, ← HF.out]
          exact firstPl_at _ _ k (by simpa using hlt) (fun j hj hjk => by
            have := HN.out j (by simpa using hj) hjk
            simpa using this) (by
            have := HQ.out
            simpa using this)
        go_wp2_with fail
        rw [Exit.noGoto_ret]
        go_ret2
        have hr : roomQ P = (0, k, P) := by
          unfold roomQ
          rw [HE.out, if_pos (by rw [← HF.out]; simpa using hlt)]
        rw [hr]
        exact ⟨rfl, HPA.out.s0, Trn.refl _ _⟩
      · have HF := Lib.hid (HNX.out (by rw [HQ.out]; rfl))
        go_wp2_with fail
        go_roundw
        case rel => exact ⟨k + 1, by omega, by go_num, rfl, HF.out⟩
        case measure => simp [intOf]; omega
    · obtain rfl : k = l.length := by omega
      have HR : Hid (roomQ P = clockQ (2 * l.length) P) := by
        have := firstPl_none noneF (l.map (·.1)) (fun j hj => by
          have := HN.out j (by simpa using hj) (by simpa using hj)
          simpa using this)
        rw [HF.out] at this
        unfold roomQ emptyF
        rw [Hid, this, if_neg (by omega), ← HF.out, List.length_map]
      rw [HR.out]
      have HL : Hid (P.fr.length = l.length) := by rw [Hid, ← HF.out, List.length_map]
      clear HN
      go_wp2_with fail
      go_step3
      go_wp2_with fail
      go_loopw [6] (fun i wr => ClockRel w T p d fb l.length P i wr) (fun i _ => 2 * l.length - (intOf i).toNat)
      case atStart => exact ⟨0, P, by omega, rfl, HPA.out.s0, Trn.refl _ _, HL.out, rfl⟩
      case round =>
        obtain ⟨k, Q, hk, rfl, hq, htq, hlq, hcq⟩ := hrel
        obtain ⟨S2, l2, h2, hf2⟩ := hq
        have hl2 : l2.length = l.length := by rw [← hlq, ← hf2, List.length_map]
        obtain ⟨e0, e1, e2, e3⟩ := h2.cells
        have hhd := h2.hd
        rw [hl2] at e1
        have hw2 : IntKind.i64.wrap (2 * (l.length : Int)) = 2 * (l.length : Int) := by rw [IntKind.wrap_i64]; omega
        have H2 := Lib.hid h2
        have HQP : Hid (PAt wr (more T w wr) p d fb Q) := ⟨S2, l2, h2, hf2⟩
        have HF2 := Lib.hid hf2
        have HT2 := Lib.hid htq
        have HL2 := Lib.hid hl2
        have HLQ := Lib.hid hlq
        have HC := Lib.hid hcq
        clear h2 hf2 htq hl2 hlq hcq HPA c0 c1 c2 c3
        by_cases hlt : k < 2 * l.length
        · have hkn : (k : Int) < 2 * (l.length : Int) := by omega
          have HCN : Hid (clockQ (2 * l.length) P = clockQ ((2 * l.length - (k + 1)) + 1) Q) := by rw [Hid, HC.out]; congr 1; omega
          have HM2 : Hid (PAtL wr.drew S2 (more T w wr) p d fb l2 Q.hand Q.s) := H2.out.same (w' := wr.drew) (Nat.le_refl _) (fun _ _ => rfl)
          have g1 : wr.drew.cell? ⟨p, 1, none⟩ = some (.slice (some ⟨fb, 0, none⟩) l.length l.length) := e1
          have g2 : wr.drew.cell? ⟨p, 2, none⟩ = some (.int .i64 (Q.hand : Int)) := e2
          have G1 := Lib.hid g1
          have G2 := Lib.hid g2
          obtain ⟨f0, f1, f2, f3, f4, f5⟩ := HM2.out.at hhd
          have hgx := H2.out.get HF2.out hhd
          have hhl : (Q.hand : Int) < (l.length : Int) := by have := HL2.out; omega
          clear e0 e2 e3 g1 g2 f0 f1 f3 f5
          go_wp2_with fail
          refine wp_region_R (R := fun x y => x = y) (by kernel_rfl) (fun _ => rfl) (fun h k => h.trans k) (by kernel_rfl) (fun d v c a w h => by cases d <;> exact h)
            [(0, false), (1, false), (2, false), (3, false), (4, false), (5, false), (6, false), (7, false), (8, false), (9, false)] rfl (by kernel_rfl) (by kernel_rfl) ?_
          simp only [sel, List.getElem?_toArray, List.getElem?_cons_succ, List.getElem?_cons_zero]
          have HTD : Hid (Trn T w wr.drew) := HT2.out.drew
          have HSZ : Hid (wr.heap.size = wr.drew.heap.size) := rfl
          generalize wr.drew = wd at *
          iterate 3 (refine sch_take ?_ rfl ?_ ?_; rotate_left; (focus (intro u hu; go_simp <;> rfl)); simp only [Act.put, List.setIfInBounds_toArray, List.set_cons_zero, List.set_cons_succ])
          (refine sch_take ?_ rfl ?_ ?_; rotate_left; (focus (intro u hu; subst hu; have c1 := G1.out; go_simp <;> rfl)); simp only [Act.put, List.setIfInBounds_toArray, List.set_cons_zero, List.set_cons_succ])
          iterate 3 (refine sch_take ?_ rfl ?_ ?_; rotate_left; (focus (intro u hu; go_simp <;> rfl)); simp only [Act.put, List.setIfInBounds_toArray, List.set_cons_zero, List.set_cons_succ])
          (refine sch_take ?_ rfl ?_ ?_; rotate_left; (focus (intro u hu; subst hu; have c2 := G2.out; go_simp <;> rfl)); simp only [Act.put, List.setIfInBounds_toArray, List.set_cons_zero, List.set_cons_succ])
          iterate 2 (refine sch_take ?_ rfl ?_ ?_; rotate_left; (focus (intro u hu; go_simp <;> rfl)); simp only [Act.put, List.setIfInBounds_toArray, List.set_cons_zero, List.set_cons_succ])
          refine sch_nil ?_
          by_cases hp : 0 < l2[Q.hand].1.pins
          · have hpi : (0 : Int) < (l2[Q.hand].1.pins : Int) := by omega
            have HMV := Lib.hid (pmove_is HM2.out)
            have HCP : Hid (clockQ ((2 * l.length - (k + 1)) + 1) Q = clockQ (2 * l.length - (k + 1)) (stepH Q)) := by rw [Hid, clockQ, hgx, if_pos hp]
            clear hgx hp
            go_wp2_with fail
            refine HMV.out.mono ?_
            rintro e w1 ⟨rfl, hm1, ht1⟩
            have HRL : Hid (ClockRel w T p d fb l.length P (.int .i64 ((k : Int) + 1)) w1) := ⟨k + 1, stepH Q, by omega, congrArg (Value.int .i64) (by omega), ⟨S2, _, (show PAtL w1 S2 _ p d fb l2 (stepH Q).hand (stepH Q).s from by rw [show (stepH Q).hand = (Q.hand + 1) % l2.length by rw [HL2.out, ← HLQ.out]; rfl]; exact hm1).up HLT.out HTD.out.size (by have := ht1.size; have := HSZ.out; omega) ht1.size, HF2.out⟩, HTD.out.trans ht1 (fun k hk h => h.elim id (fun e => by omega)), HLQ.out, by rw [HCN.out, HCP.out]⟩
            clear hm1 ht1
            go_wp2_with fail
            go_roundw
            case rel => exact HRL.out
            case measure => simp [intOf]; omega
          · have hp0 : l2[Q.hand].1.pins = 0 := by omega
            rw [hp0] at f2
            by_cases hus : l2[Q.hand].1.used = true
            · rw [hus] at f4
              have HTI : Hid (PAtL (wd.setCell ⟨fb, Q.hand * 6 + 4, none⟩ (.bool false)) S2 (more T w wr) p d fb (l2.set Q.hand ({ l2[Q.hand].1 with used := false }, l2[Q.hand].2)) Q.hand Q.s) := HM2.out.put hhd (by omega) (.bool false) _ rfl (HM2.out.mem hhd).1 (HM2.out.mem hhd).2
              have HMV := Lib.hid (pmove_is HTI.out)
              have HCP : Hid (clockQ ((2 * l.length - (k + 1)) + 1) Q = clockQ (2 * l.length - (k + 1)) (stepH (tiredQ Q))) := by rw [Hid, clockQ, hgx, if_neg hp, if_pos hus]
              have f4f := HM2.out.frozen (Q.hand * 6 + 4)
              have HTT := Lib.hid HM2.out.tf
              have HFT : Hid ((l2.set Q.hand ({ l2[Q.hand].1 with used := false }, l2[Q.hand].2)).map (·.1) = (stepH (tiredQ Q)).fr) := by rw [Hid, List.map_set, HF2.out]; unfold stepH tiredQ; rw [hgx]
              have HLT2 : Hid ((stepH (tiredQ Q)).fr.length = l.length) := by rw [Hid, ← HFT.out, List.length_map, List.length_set, HL2.out]
              have HTD2 : Hid (Trn T w (wd.setCell ⟨fb, Q.hand * 6 + 4, none⟩ (.bool false))) := HTD.out.setCell _ (fun hfb => HTT.out.elim id (fun e => by omega))
              clear hgx hp hus hp0
              go_wp2_with fail
              refine HMV.out.mono ?_
              rintro e w1 ⟨rfl, hm1, ht1⟩
              have hsz1 : wd.heap.size ≤ w1.heap.size := by have := ht1.size; rw [setCell_size] at this; exact this
              have HRL : Hid (ClockRel w T p d fb l.length P (.int .i64 ((k : Int) + 1)) w1) := ⟨k + 1, stepH (tiredQ Q), by omega, congrArg (Value.int .i64) (by omega), ⟨S2, _, (show PAtL w1 S2 _ p d fb _ (stepH (tiredQ Q)).hand (stepH (tiredQ Q)).s from by rw [show (stepH (tiredQ Q)).hand = (Q.hand + 1) % (l2.set Q.hand ({ l2[Q.hand].1 with used := false }, l2[Q.hand].2)).length by rw [List.length_set, HL2.out, ← HLT2.out]; rfl]; exact hm1).up HLT.out HTD.out.size (by have := HSZ.out; omega) hsz1, HFT.out⟩, HTD2.out.trans ht1 (fun k hk h => h.elim id (fun e => by omega)), HLT2.out, by rw [HCN.out, HCP.out]⟩
              clear hm1 ht1
              go_wp2_with fail
              go_roundw
              case rel => exact HRL.out
              case measure => simp [intOf]; omega
            · have hus' : l2[Q.hand].1.used = false := by simpa using hus
              rw [hus'] at f4
              have HVC := Lib.hid (pvacate_is (w := wd) (T := more T w wr) ⟨S2, l2, HM2.out, HF2.out⟩ Q.hand (by have := HLQ.out; have := HL2.out; omega))
              have HCP : Hid (clockQ ((2 * l.length - (k + 1)) + 1) Q = if (vacQ Q Q.hand).1 = 0 then (0, Q.hand, stepH (vacQ Q Q.hand).2) else ((vacQ Q Q.hand).1, 0, (vacQ Q Q.hand).2)) := by rw [Hid, clockQ, hgx, if_neg hp, if_neg hus]
              clear hgx hp hus hp0 hus'
              generalize vacQ Q Q.hand = r at *
              obtain ⟨er, P1⟩ := r
              go_wp2_with fail
              refine HVC.out.mono ?_
              rintro e w1 ⟨rfl, hp1, ht1⟩
              by_cases h0 : er = 0
              · subst h0
                obtain ⟨S3, l3, h3, hf3⟩ := hp1
                have HMV := Lib.hid (pmove_is h3)
                have HF3 := Lib.hid hf3
                have HT1 := Lib.hid ht1
                clear h3 ht1 hf3
                go_wp2_with fail
                refine HMV.out.mono ?_
                rintro e w2 ⟨rfl, hm2, ht2⟩
                have HM3 := Lib.hid hm2
                have HT3 := Lib.hid ht2
                clear hm2 ht2
                go_wp2_with fail
                rw [Exit.noGoto_ret]
                go_ret2
                rw [HR.out, HCN.out, HCP.out]
                have hs1 := HT1.out.size
                have hs2 := HT3.out.size
                have hs0 := HTD.out.size
                have hsw := HSZ.out
                refine ⟨rfl, ⟨S3, l3, (show PAtL w2 S3 _ p d fb l3 (stepH P1).hand (stepH P1).s from by rw [show (stepH P1).hand = (P1.hand + 1) % l3.length by rw [← List.length_map (f := fun x : Fr × Value => x.1), HF3.out]; rfl]; exact HM3.out).wide (more_two (by omega) (by omega) (by omega)) (more_lt (by omega) HLT.out), HF3.out⟩, (HTD.out.trans HT1.out (fun k hk h => h.elim id (fun e => by omega))).trans HT3.out (fun k hk h => h.elim (fun e => e.elim id (fun e => by omega)) (fun e => by omega))⟩
              · have hne := ne_int h0
                have HP1 := Lib.hid hp1
                have HT1 := Lib.hid ht1
                clear hp1 ht1
                go_wp2_with fail
                rw [Exit.noGoto_ret]
                go_ret2
                rw [HR.out, HCN.out, HCP.out, if_neg h0]
                have hs1 := HT1.out.size
                have hs0 := HTD.out.size
                have hsw := HSZ.out
                refine ⟨by rw [if_neg h0]; rfl, HP1.out.wide (more_two (by omega) (by omega) (by omega)) (more_lt (by omega) HLT.out), HTD.out.trans HT1.out (fun k hk h => h.elim id (fun e => by omega))⟩
        · have hkn : ¬ (k : Int) < 2 * (l.length : Int) := by omega
          have HCZ : Hid (clockQ (2 * l.length) P = (9, 0, Q)) := by rw [Hid, HC.out, show 2 * l.length - k = 0 by omega]; rfl
          go_wp2_with fail
          go_ret2
          rw [HR.out, HCZ.out]
          exact ⟨rfl, HQP.out, HT2.out⟩
end
end Go.Proofs.YtknagdbhhfelnaaDoor
