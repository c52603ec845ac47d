/-
  Package pool: Clean, Flush, Reset, New by their contracts, and a pool that nobody made. Conditions: none but that the pool (the disk) lies there.
-/
import Derived.Test.YtmfcckmcbmlhmaaPlG
import Derived.Test.YtmfcckmcbmlhmaaFlt
import Derived.Test.YtmfcckmcbmlhmaaSecN
namespace Go.Proofs.Ytmfcckmcbmlhmaa
open Go.RowKit Go.Maps
set_option maxRecDepth 100000

/-- Frames saved, k of them left. -/
def cleanI : Nat → PSt → Nat × PSt
  | 0, P => (0, P)
  | k + 1, P => if (saveQ P (P.fr.length - (k + 1))).1 = 0 then cleanI k (saveQ P (P.fr.length - (k + 1))).2 else saveQ P (P.fr.length - (k + 1))
def cleanQ (P : PSt) : Nat × PSt := cleanI P.fr.length P
def flushQ (P : PSt) : Nat × PSt := if (cleanQ P).1 = 0 then ((flushR (cleanQ P).2.s).1, ⟨(cleanQ P).2.fr, (cleanQ P).2.hand, (flushR (cleanQ P).2.s).2⟩) else cleanQ P
def resetQ (P : PSt) : Nat × PSt := (0, ⟨List.replicate P.fr.length zeroF, 0, P.s⟩)
def newQ (s : St) (n : Nat) : PSt := ⟨List.replicate n zeroF, 0, s⟩
theorem flat_is (l : List (Fr × Value)) : flat l = l.flatMap (fun x => frL x.1 x.2) := by
  induction l with
  | nil => rfl
  | cons x l ih => rw [flat, ih, List.flatMap_cons]
section
variable {w w' : World} {S T : Nat → Prop} {p d fb hand : Nat} {l : List (Fr × Value)} {s : St}
def CleanRel (w : World) (T : Nat → Prop) (p d fb n : Nat) (P : PSt) (i : Value) (wr : World) : Prop := ∃ (k : Nat) (Q : PSt), k ≤ n ∧ i = .int .i64 (k : Int) ∧ PAt wr (more T w wr) p d fb Q ∧ Trn T w wr ∧ Q.fr.length = n ∧ cleanI n P = cleanI (n - k) Q
set_option maxHeartbeats 1000000 in
theorem pclean_is {P : PSt} (h : PAt w T p d fb P) :
    Calls Try.prog 16 #[.pointer (some ⟨p, 0, none⟩)] w (POut w T p d fb (cleanQ P)) := by
  have HM := Lib.hid h.made
  have HP0 := Lib.hid h.s0
  have HLT := Lib.hid h.lt
  have h256 := h.len.1.2
  unfold cleanQ
  have c1 : w.cell? ⟨p, 1, none⟩ = some (.slice (some ⟨fb, 0, none⟩) P.fr.length P.fr.length) := by
    obtain ⟨S, l, h, hf⟩ := h
    rw [← hf, List.length_map]
    exact h.cells.2.1
  clear h
  generalize hn : P.fr.length = n at *
  have HN := Lib.hid hn
  clear hn
  go_enter Try.func16, Try.ntmps16
  go_wp2_with fail
  refine HM.out.mono ?_
  rintro e w1 ⟨rfl, rfl⟩
  go_wp2_with fail
  go_loopw [13] (fun i wr => CleanRel w T p d fb n P i wr) (fun i _ => n - (intOf i).toNat)
  case atStart => exact ⟨0, P, by omega, rfl, HP0.out, Trn.refl _ _, HN.out, rfl⟩
  case round =>
    obtain ⟨k, Q, hk, rfl, hq, htq, hlq, hcq⟩ := hrel
    have d1 : wr.cell? ⟨p, 1, none⟩ = some (.slice (some ⟨fb, 0, none⟩) n n) := by
      obtain ⟨S, l, h, hf⟩ := hq
      rw [← hlq, ← hf, List.length_map]
      exact h.cells.2.1
    have HC := Lib.hid hcq
    have HT2 := Lib.hid htq
    have HQ := Lib.hid hq
    have HLQ := Lib.hid hlq
    clear hcq c1 htq hq
    by_cases hlt : k < n
    · have hkn : (k : Int) < (n : Int) := by omega
      have HSV := Lib.hid (psave_is HQ.out k (by omega))
      have HCN : Hid (cleanI n P = if (saveQ Q k).1 = 0 then cleanI (n - (k + 1)) (saveQ Q k).2 else saveQ Q k) := by
        rw [Hid, HC.out, show n - k = (n - (k + 1)) + 1 by omega, cleanI, hlq, show n - ((n - (k + 1)) + 1) = k by omega]
      have HSL : Hid ((saveQ Q k).2.fr.length = n) := by rw [Hid, saveQ_len, hlq]
      clear hlq
      generalize saveQ Q k = r at *
      obtain ⟨er, P1⟩ := r
      go_wp2_with fail
      refine HSV.out.mono ?_
      rintro e w1 ⟨rfl, hp1, ht1⟩
      have HP1 : Hid (PAt w1 (more T w w1) p d fb P1) := hp1.wide (more_two HT2.out.size ht1.size (Nat.le_refl _)) (more_lt (Nat.le_trans HT2.out.size ht1.size) HLT.out)
      have HT1 : Hid (Trn T w w1) := HT2.out.trans ht1 (fun k hk h => h.elim id (fun e => by omega))
      clear hp1 ht1
      by_cases h0 : er = 0
      · subst h0
        have HCP : Hid (cleanI n P = cleanI (n - (k + 1)) P1) := by rw [Hid, HCN.out, if_pos rfl]
        go_wp2_with fail
        go_roundw
        case rel => exact ⟨k + 1, P1, by omega, by go_num, HP1.out, HT1.out, HSL.out, HCP.out⟩
        case measure => simp [intOf]; omega
      · have hne := ne_int h0
        have HCP : Hid (cleanI n P = (er, P1)) := by rw [Hid, HCN.out, if_neg h0]
        go_wp2_with fail
        go_ret
        rw [HCP.out]
        exact ⟨rfl, HP1.out, HT1.out⟩
    · obtain rfl : k = n := by omega
      have HCP : Hid (cleanI k P = (0, Q)) := by rw [Hid, HC.out, Nat.sub_self]; rfl
      go_wp2_with fail
      go_ret
      rw [HCP.out]
      exact ⟨rfl, HQ.out, HT2.out⟩
theorem pat_flush {P : PSt} (h : PAt w T p d fb P) : ∃ S, Calls Try.prog 36 #[.pointer (some ⟨d, 0, none⟩)] w (Done w S d (flushR P.s)) ∧ (∀ k, S k → T k) ∧ ∀ w' s', Dsk w' (more S w w') d s' → Trn S w w' → PAt w' (more T w w') p d fb ⟨P.fr, P.hand, s'⟩ := by
  obtain ⟨S, l, h, hf⟩ := h
  exact ⟨S, flush_is w S d P.s h.dsk, h.sT, fun w' s' a b => ⟨_, l, h.disk a b, hf⟩⟩
set_option maxHeartbeats 1000000 in
theorem pflush_is {P : PSt} (h : PAt w T p d fb P) :
    Calls Try.prog 17 #[.pointer (some ⟨p, 0, none⟩)] w (POut w T p d fb (flushQ P)) := by
  have HCL := Lib.hid (pclean_is h)
  have HLT := Lib.hid h.lt
  unfold flushQ
  clear h
  generalize cleanQ P = r at *
  generalize hR : (if r.1 = 0 then ((flushR r.2.s).1, (⟨r.2.fr, r.2.hand, (flushR r.2.s).2⟩ : PSt)) else r) = R
  have HR := Lib.hid hR
  clear hR
  obtain ⟨er, P1⟩ := r
  go_enter Try.func17, Try.ntmps17
  go_wp2_with fail
  refine HCL.out.mono ?_
  rintro e w1 ⟨rfl, hp1, ht1⟩
  by_cases h0 : er = 0
  · subst h0
    have c0 : w1.cell? ⟨p, 0, none⟩ = some (.pointer (some ⟨d, 0, none⟩)) := by
      obtain ⟨S, l, h, hf⟩ := hp1
      exact h.cells.1
    obtain ⟨S, hfl, hST, hup⟩ := pat_flush hp1
    have HFL := Lib.hid hfl
    have HST := Lib.hid hST
    have HUP := Lib.hid hup
    have HT1 := Lib.hid ht1
    clear hfl hST hup ht1 hp1
    have HRE : Hid (R = ((flushR P1.s).1, ⟨P1.fr, P1.hand, (flushR P1.s).2⟩)) := by rw [Hid, ← HR.out]; exact if_pos rfl
    generalize flushR P1.s = f at *
    obtain ⟨ef, sf⟩ := f
    go_wp2_with fail
    refine HFL.out.mono ?_
    rintro e w2 ⟨rfl, hd2, ht2⟩
    have HP2 := Lib.hid (HUP.out w2 _ hd2 ht2)
    have HT2 := Lib.hid ht2
    clear hd2 ht2
    go_wp2_with fail
    go_ret
    rw [HRE.out]
    have hs1 := HT1.out.size
    have hs2 := HT2.out.size
    exact ⟨rfl, HP2.out.wide (more_two hs1 hs2 (Nat.le_refl _)) (more_lt (by omega) HLT.out), HT1.out.trans HT2.out (fun k hk h => (HST.out k h).elim id (fun e => by omega))⟩
  · have hne := ne_int h0
    have HP1 := Lib.hid hp1
    have HT1 := Lib.hid ht1
    have HRE : Hid (R = (er, P1)) := by rw [Hid, ← HR.out]; exact if_neg h0
    clear hp1 ht1
    go_wp2_with fail
    go_ret
    rw [HRE.out]
    exact ⟨rfl, HP1.out, HT1.out⟩
theorem zeros_frames (n : Nat) : (Builtin.zeroCells (Value.agg (frL zeroF (.slice none 0 0)).toArray).cells n).toList = flat (List.replicate n (zeroF, .slice none 0 0)) := by
  rw [flat_is]
  unfold Builtin.zeroCells
  exact fm_made (m := 6) (g := fun x : Fr × Value => frL x.1 x.2) (fun _ => rfl) (by omega) (zeroF, .slice none 0 0) n
theorem made_frames (n : Nat) : (madeCells (Value.agg (frL zeroF (.slice none 0 0)).toArray).cells (n * 6)).toList = flat (List.replicate n (zeroF, .slice none 0 0)) := by
  rw [flat_is]
  unfold madeCells
  exact fm_made (m := 6) (g := fun x : Fr × Value => frL x.1 x.2) (fun _ => rfl) (by omega) (zeroF, .slice none 0 0) n
theorem run_clearF (h : PAtL w S T p d fb l hand s) (ty : TypeId) : (Builtin.clear_ #[54] ty #[.slice (some ⟨fb, 0, none⟩) l.length l.length]).run Try.prog w = .ok (.tuple #[]) (w.setRow fb (flat (List.replicate l.length (zeroF, .slice none 0 0))).toArray) := by
  have hu := Try.underlying54
  have hl : (flat (List.replicate l.length ((zeroF, .slice none 0 0) : Fr × Value))).length = 6 * l.length := by rw [flat_len, List.length_replicate]
  have h1 : ∀ v ∈ flat (List.replicate l.length ((zeroF, .slice none 0 0) : Fr × Value)), v.oneCell' = true := by
    rw [flat_is]
    intro v hv
    obtain ⟨x, hx, hv⟩ := List.mem_flatMap.1 hv
    obtain ⟨_, rfl⟩ := List.mem_replicate.1 hx
    exact frL_one (w := w) (zeroF, .slice none 0 0) (Byt.nil w) v hv
  have hst := storeCells_at (P := Try.prog) fb 0 _ (flat (List.replicate l.length (zeroF, .slice none 0 0))) 0 _ w h.blk (by rw [hl, List.size_toArray, flat_len]; omega) h1
  rw [putAll_all _ _ (by rw [hl, List.size_toArray, flat_len])] at hst
  obtain ⟨m, hm⟩ : ∃ m, l.length = m + 1 := ⟨l.length - 1, by have := h.n8; omega⟩
  rw [hm] at hst ⊢
  have hz : (Builtin.zeroCells (Value.agg #[.bool false, .int .i64 0, .int .i64 0, .bool false, .bool false, .slice none 0 0]).cells (m + 1)).toList = flat (List.replicate (m + 1) (zeroF, .slice none 0 0)) := zeros_frames (m + 1)
  simp [Builtin.clear_, run_underlying hu]
  rw [hz, hst]
  rfl
theorem PAtL.clear (h : PAtL w S T p d fb l hand s) : PAtL (w.setRow fb (flat (List.replicate l.length (zeroF, .slice none 0 0))).toArray) S T p d fb (List.replicate l.length (zeroF, .slice none 0 0)) hand s := by
  have ht := setRow_trn w fb (flat (List.replicate l.length ((zeroF, .slice none 0 0) : Fr × Value))).toArray
  refine ⟨?_, setRow_heap w fb _ _ _ _ h.blk, h.dsk.trn ht (fun k hk e => h.sf (e ▸ hk)), fun x hx => ?_, fun x hx k hk => ?_, h.sT, h.tp, h.tf, h.sp, h.sf, h.pf, fun k hk => Nat.lt_of_lt_of_le (h.lt k hk) ht.size, ?_, ?_, ?_⟩
  · rw [List.length_replicate]
    exact (ht.block p (h.lt p h.tp) h.pf).trans h.obj
  · obtain ⟨_, rfl⟩ := List.mem_replicate.1 hx
    exact Byt.nil _
  · obtain ⟨_, rfl⟩ := List.mem_replicate.1 hx
    cases hk
  · rw [List.length_replicate]; exact h.n8
  · rw [List.length_replicate]; exact h.n256
  · rw [List.length_replicate]; exact h.hd
set_option maxHeartbeats 1000000 in
theorem preset_is {P : PSt} (h : PAt w T p d fb P) :
    Calls Try.prog 18 #[.pointer (some ⟨p, 0, none⟩)] w (POut w T p d fb (resetQ P)) := by
  have HM := Lib.hid h.made
  obtain ⟨S, l, h, hf⟩ := h.s0
  obtain ⟨c0, c1, c2, c3⟩ := h.cells
  have hcl := run_clearF h
  have h2 := h.clear
  have h3 := h2.setHand 0 (by rw [List.length_replicate]; have := h.n8; omega)
  obtain ⟨g0, g1, g2, g3⟩ := h2.cells
  have HT1 : Hid (Trn T w ((w.setRow fb (flat (List.replicate l.length ((zeroF, .slice none 0 0) : Fr × Value))).toArray).setCell ⟨p, 2, none⟩ (.int .i64 0))) :=
    ((setRow_trn w fb _).wide (fun k hk => hk ▸ h.tf.elim id (fun e => by have := h.lt fb h.tf; subst hk; exact absurd e.1 (by omega)))).setCell _ (fun hk => h.tp.elim id (fun e => by omega))
  have HP3 : Hid (PAt ((w.setRow fb (flat (List.replicate l.length ((zeroF, .slice none 0 0) : Fr × Value))).toArray).setCell ⟨p, 2, none⟩ (.int .i64 0)) (more T w w) p d fb (resetQ P).2) := ⟨S, _, h3, by rw [List.map_replicate, ← List.length_map (f := fun y : Fr × Value => y.1), hf]; rfl⟩
  have HSZ : Hid (((w.setRow fb (flat (List.replicate l.length ((zeroF, .slice none 0 0) : Fr × Value))).toArray).setCell ⟨p, 2, none⟩ (.int .i64 0)).heap.size = w.heap.size) := by rw [Hid, setCell_size]; simp [World.setRow]
  clear h h2 h3 hf g0 g1 c0 c2 c3
  generalize w.setRow fb (flat (List.replicate l.length ((zeroF, .slice none 0 0) : Fr × Value))).toArray = w2 at *
  go_enter Try.func18, Try.ntmps18
  go_wp2_with fail
  refine HM.out.mono ?_
  rintro e w1 ⟨rfl, rfl⟩
  go_wp2_with fail
  go_ret
  exact ⟨rfl, by rw [more_size HSZ.out]; exact HP3.out, HT1.out⟩
end
end Go.Proofs.Ytmfcckmcbmlhmaa
