/-
  The texts PgI, PgJ in one. Conditions: as each part says.
-/
import Derived.Test.YtknagdbhhfelnaaDoorMg5
import Derived.Test.YtknagdbhhfelnaaDoorCRd1
import Derived.Test.YtknagdbhhfelnaaDoorMg1
/-
  The document's readers: see Rd1, where they stand since round 8; this text only brings them behind the pages. Conditions: none.
-/

/-
  The document's pages (tallymanref05): sum, Bytes by their contracts. Conditions: none.
-/
namespace Go.Proofs.YtknagdbhhfelnaaDoor
open Go.RowKit Go.Maps
set_option maxRecDepth 100000

def fillZ (l : List UInt8) (k : Nat) : List UInt8 := l.take 12 ++ (zsB (k - 12) ++ l.drop k)
theorem fillZ_start (l : List UInt8) : fillZ l 12 = l := by unfold fillZ zsB; simp
theorem fillZ_len {l : List UInt8} {k : Nat} (h1 : 12 ≤ k) (h2 : k ≤ l.length) : (fillZ l k).length = l.length := by
  unfold fillZ
  simp only [List.length_append, List.length_take, List.length_drop, zsB_len]
  omega
theorem fillZ_set {l : List UInt8} {k : Nat} (h1 : 12 ≤ k) (h2 : k < l.length) : (fillZ l k).set k 0 = fillZ l (k + 1) := by
  unfold fillZ
  have e1 : (l.take 12 ++ (zsB (k - 12) ++ l.drop k)) = (l.take 12 ++ zsB (k - 12)) ++ l.drop k := by simp
  have hl : (l.take 12 ++ zsB (k - 12)).length = k := by rw [List.length_append, List.length_take, zsB_len]; omega
  rw [e1, List.set_append_right _ _ (by omega), hl, Nat.sub_self, List.drop_eq_getElem_cons h2, List.set_cons_zero]
  rw [show k + 1 - 12 = (k - 12) + 1 by omega, zs_split, show zsB 1 = [0] from rfl]
  simp
theorem fillZ_end (l : List UInt8) : sumC (fillZ l 16) = sumB l := by
  unfold fillZ sumB
  rw [show 16 - 12 = 4 from rfl, List.append_assoc]
theorem own_base {w : World} {B g n c : Nat} {e : TypeId} {l : List UInt8} (h : Own w B e (.slice (some ⟨g, 0, none⟩) n c) l) : B ≤ g := by
  rcases h.2 with ⟨e, _⟩ | ⟨g', _, _, e, hb, _⟩
  · cases e
  · simp at e
    omega
def FillRel (w : World) (g n c : Nat) (l : List UInt8) (i : Value) (wr : World) : Prop :=
  ∃ k : Nat, 12 ≤ k ∧ k ≤ 16 ∧ i = .int .i64 (k : Int) ∧ Own wr w.heap.size 5 (.slice (some ⟨g, 0, none⟩) n c) (fillZ l k) ∧ Below w.heap.size w wr
set_option maxRecDepth 100000 in
set_option maxHeartbeats 2000000 in
theorem r5sum_any (w : World) (v : Value) (l : List UInt8) (hv : Byt w v l) (hl : 16 ≤ l.length) (hlen : l.length ≤ 10000) :
    Calls Tryd.prog 36 #[v] w (Word32 w (sumB l)) := by
  obtain ⟨i0, hi0, hz0, hz1, hz2⟩ := info_parts uinfo
  have HV := Lib.hid hv
  have HE := Lib.hid (Own.empty w)
  have HL := Lib.hid hl
  have HLN := Lib.hid hlen
  clear hv
  go_enter Tryd.func36, Tryd.ntmps36
  go_wp2_with (at_builtin; refine wpList_app _ rfl (.tmp 5) (.tmp 6) _ rfl w.heap.size 5 i0 _ Tryd.underlying27 hi0 hz0 hz1 hz2 rfl _ [] rfl HE.out _ l rfl (HV.out.alloc _) (by simp; omega) (by simp) ?_; intro v1 w1 hown1 hg1 hat1; have HB1 := Lib.hid (below_own (below_new w _) (by simp) HE.out hg1); rw [List.nil_append] at hown1; rcases hown1.2 with ⟨_, e0⟩ | ⟨g, c, cur, rfl, hgb, _, hnc, hcm, _⟩; (exfalso; omega); have HO1 := Lib.hid hown1; clear hg1 hat1 hown1)
  unfold maxLen at hcm
  have hlI : (16 : Int) ≤ (l.length : Int) := by omega
  generalize hn : l.length = n at *
  have HN := Lib.hid hn
  clear hn
  go_loopw [4] (fun i wr => FillRel w g n c l i wr) (fun i _ => 16 - (intOf i).toNat)
  case atStart => exact ⟨12, by omega, by omega, rfl, by rw [fillZ_start]; exact HO1.out, HB1.out⟩
  case round =>
    obtain ⟨k, hk1, hk2, rfl, hown, hbel⟩ := hrel
    have HO := Lib.hid hown
    have HB := Lib.hid hbel
    have hfl := fillZ_len hk1 (by have := HN.out; omega : k ≤ l.length)
    by_cases hlt : k < 16
    · have hcell := own_cell hown (j := k) (by have := HN.out; omega)
      have hfr : wr.frozen? ⟨g, k, none⟩ = false := by
        have := hown
        unfold Own at this
        rw [hfl, HN.out] at this
        exact World.ownsRow.frozenAt this k
      have HS := Lib.hid (own_set hown (hfl.trans HN.out) k 0)
      have hb0 : w.heap.size ≤ g := own_base hown
      have HB2 := Lib.hid (hbel.setCell (p := ⟨g, k, none⟩) hb0 (.int .u8 0))
      have HST := Lib.hid (fillZ_set hk1 (by have := HN.out; omega : k < l.length))
      have hkn : (k : Int) < (n : Int) := by omega
      have hz : ((0 : UInt8).toNat : Int) = 0 := rfl
      rw [hz] at HS
      clear hown hbel hfl hb0
      generalize ((fillZ l k).getD k 0).toNat = y at *
      go_wp2_with fail
      go_roundw
      case rel => exact ⟨k + 1, by omega, by omega, by go_num, by rw [← HST.out]; exact HS.out, HB2.out⟩
      case measure => simp [intOf]; omega
    · obtain rfl : k = 16 := by omega
      clear hown hbel
      go_wp2_with fail
      have hsum := refsum_any wr _ (fillZ l 16) HO.out.byt (by have := HN.out; omega)
      rw [fillZ_end] at hsum
      refine hsum.mono ?_
      clear hsum
      rintro e w3 ⟨rfl, hb3⟩
      generalize sumB l = sm at *
      go_wp2_with fail
      go_ret
      exact ⟨rfl, HB.out.trans (hb3.mono HB.out.size)⟩
theorem slice1c (g a n c : Nat) (ha : a < n) (hc : n ≤ c) : ∀ W, (Instr.slice 27 (.slice (some ⟨g, 0, none⟩) n c) (some (.int .i64 (a : Int))) none none).run Tryd.prog W = .ok (.slice (some ⟨g, a, none⟩) (n - a) (c - a)) W := by
  intro W
  rw [run_slice_l W 27 _ n c elemByte .i64 (a : Int) (by omega) (by omega), sizeByte]
  simp only [Result.andThen, sliced, Int.toNat_natCast]
  rw [if_neg (by omega)]
  simp [plainAdd]
set_option maxHeartbeats 1000000 in
theorem r5bytes_bad (w : World) (k n : Int) (vb : Value) (l : List UInt8) (hv : Byt w vb l) (h : ¬ ((1 ≤ k ∧ k ≤ 7) ∧ l.length ≤ 4080)) :
    Calls Tryd.prog 17 #[.agg (pageV k n vb)] w (Refused w 2) := by
  obtain ⟨A, m, c, rfl, N, hnc, hcm⟩ := hv.form
  have HB := Lib.hid (below_new w (.cells (pageV k n (.slice A m c)) 48))
  clear hv
  unfold pageV at *
  by_cases h1 : k < 1
  · go_enter Tryd.func17, Tryd.ntmps17
    go_wp2_with fail
    go_ret2
    exact ⟨rfl, HB.out⟩
  · by_cases h7 : 7 < k
    · go_enter Tryd.func17, Tryd.ntmps17
      go_wp2_with fail
      go_ret2
      exact ⟨rfl, HB.out⟩
    · have hm : (4080 : Int) < (m : Int) := by have := N.out; omega
      clear h
      go_enter Tryd.func17, Tryd.ntmps17
      go_wp2_with fail
      go_ret2
      exact ⟨rfl, HB.out⟩
set_option maxRecDepth 100000 in
set_option maxHeartbeats 8000000 in
theorem r5bytes_ok (w : World) (k nn : Nat) (vb : Value) (l : List UInt8) (hv : Byt w vb l) (h1 : 1 ≤ k) (h7 : k ≤ 7) (hl : l.length ≤ 4080) (hnn : nn < 4294967296) :
    Calls Tryd.prog 17 #[.agg (pageV (k : Int) (nn : Int) vb)] w (MadeE w (pageB k nn l)) := by
  obtain ⟨i0, hi0, hz0, hz1, hz2⟩ := info_parts uinfo
  obtain ⟨A, m, c, rfl, N, hnc, hcm⟩ := hv.form
  have HV := Lib.hid hv
  have HL := Lib.hid hl
  have HNN := Lib.hid hnn
  have hm : ¬ (4080 : Int) < (m : Int) := by have := N.out; omega
  have hk1 : ¬ (k : Int) < 1 := by omega
  have hk7 : ¬ (7 : Int) < (k : Int) := by omega
  obtain ⟨w0, hw0⟩ : ∃ w0, w.alloc (.cells (pageV k nn (.slice A m c)) 48) = w0 := ⟨_, rfl⟩
  have HX0 : Hid (Box w0 w.heap.size k nn (.slice A m c)) := hw0 ▸ Box.new w k nn _
  have HB0 : Hid (Below w.heap.size w w0) := hw0 ▸ below_new w _
  have HW0 := Lib.hid hw0
  have hk8 : (k : Int) = ((UInt8.ofNat k).toNat : Int) := byte_nat k (by omega)
  obtain ⟨w1, hw1⟩ : ∃ w1, w0.alloc (.cells #[.int .u8 84, .int .u8 77, .int .u8 1, .int .u8 (k : Int)] 5) = w1 := ⟨_, rfl⟩
  have hsz0 : w0.heap.size = w.heap.size + 1 := by rw [← hw0]; simp
  have HR1 : Hid (Byt w1 (.slice (some ⟨w.heap.size + 1, 0, none⟩) 4 4) [84, 77, 1, UInt8.ofNat k]) := by
    rw [Hid, ← hw1, ← hsz0, hk8]
    exact Byt.lit w0 5 [84, 77, 1, UInt8.ofNat k] (0, 0) (by simp [maxLen])
  have HB1 : Hid (Below w0.heap.size w0 w1) := hw1 ▸ below_new w0 _
  have HW1 := Lib.hid hw1
  have HSZ := Lib.hid hsz0
  unfold pageV at HW0 ⊢
  clear hv hl hw0 hw1 h1 h7 hsz0 hk8
  have c1 := (HX0.out.below HB1.out).cells.2.1
  rw [← HW1.out, ← HW0.out] at c1
  go_enter Tryd.func17, Tryd.ntmps17
  go_wp2_with fail
  rw [HW0.out, HW1.out]
  clear c1
  refine (refword_is w1 _ _ nn 4 HR1.out (by omega) (by omega) (by simp)).mono ?_
  rintro e w2 ⟨v2, rfl, hown2, hb2⟩
  have HB2 := Lib.hid (HB1.out.trans (hb2.mono HB1.out.size))
  have HO2 := Lib.hid (hown2.lower HB1.out.size)
  have HLZ : Hid (l.length ≤ 4080) := HL.out
  have hz8 : (byc (zsB 8)).toArray = #[.int .u8 0, .int .u8 0, .int .u8 0, .int .u8 0, .int .u8 0, .int .u8 0, .int .u8 0, .int .u8 0] := rfl
  have HL8 := Lib.hid (Byt.lit w2 5 (zsB 8) (0, 0) (by simp [maxLen, zsB]))
  rw [hz8] at HL8
  clear hown2 hb2 hz8
  have HN3 : Hid (([84, 77, 1, UInt8.ofNat k] ++ wordB 4 nn ++ zsB 8).length = 16) := by rw [Hid, List.length_append, List.length_append, wordB_len, zsB_len]; rfl
  have HN4 : Hid (([84, 77, 1, UInt8.ofNat k] ++ wordB 4 nn ++ zsB 8 ++ l).length = 16 + l.length) := by rw [Hid, List.length_append, HN3.out]
  have HN2 : Hid (([84, 77, 1, UInt8.ofNat k] ++ wordB 4 nn).length = 8) := by rw [Hid, List.length_append, wordB_len]; rfl
  have HROW : Hid ([84, 77, 1, UInt8.ofNat k] ++ wordB 4 nn ++ zsB 8 ++ l ++ zsB (4080 - l.length) = headB k nn ++ (zsB 4 ++ padB l)) := by
    rw [Hid]
    unfold headB padB
    rw [show (8 : Nat) = 4 + 4 from rfl, zs_split]
    simp only [List.append_assoc]
  go_wp2_with (first
    | (at_builtin; refine wpList_app _ rfl (.tmp 28) (.tmp 29) _ rfl w0.heap.size 5 i0 _ Tryd.underlying27 hi0 hz0 hz1 hz2 rfl _ _ rfl (World.ownsRow.alloc HO2.out _) _ (zsB 8) rfl HL8.out (by rw [HN2.out, zsB_len]; omega) (by have := HB2.out.size; simp; omega) ?_; intro v3 w3 hown3 hg3 hat3; have HB3 := Lib.hid (below_own (HB2.out.alloc HB2.out.size _) (by have := HB2.out.size; simp; omega) (World.ownsRow.alloc HO2.out _) hg3); have HO3 := Lib.hid hown3; have c2 := (HX0.out.below HB3.out).cells.2.2; clear hown3 hg3 hat3)
    | (at_builtin; refine wpList_app _ rfl (.tmp 31) (.tmp 33) _ rfl w0.heap.size 5 i0 _ Tryd.underlying27 hi0 hz0 hz1 hz2 rfl _ _ rfl HO3.out _ l rfl (HV.out.below (HB0.out.trans (HB3.out.mono HB0.out.size))) (by rw [HN3.out]; have := HL.out; omega) HB3.out.size ?_; intro v4 w4 hown4 hg4 hat4; have HB4 := Lib.hid (below_own HB3.out HB3.out.size HO3.out hg4); have HO4 := Lib.hid hown4; obtain ⟨A4, n4, c4, rfl, N4, hnc4, hcm4⟩ := hown4.byt.form; have HN4' := Lib.hid (N4.out.trans HN4.out); have hn4' : (n4 : Int) ≤ 4096 := (by have := HL.out; have := HN4'.out; omega); clear hown4 hg4 hat4 c2 N4)
    | (at_builtin; refine wpList_appM rfl (.tmp 35) (.tmp 38) rfl w0.heap.size _ _ rfl HO4.out _ (4080 - l.length) rfl (by have := HL.out; have := HN4'.out; omega) (by rw [HN4.out]; have := HL.out; omega) HB4.out.size ?_; intro v5 w5 hown5 hg5; have HB5 := Lib.hid (below_own HB4.out HB4.out.size HO4.out hg5); rw [HROW.out] at hown5; have HO5 := Lib.hid hown5; have hl5 := row4_len k nn HL.out; rcases hown5.2 with ⟨_, e0⟩ | ⟨g, c5, cur, rfl, hgb, _, hnc5, hcm5, _⟩; (exfalso; omega); rw [hl5] at HO5 hnc5 ⊢; clear hg5 hown5))
  have HGB : Hid (w0.heap.size ≤ g) := hgb
  have s12 : ∀ W, (Instr.slice 27 (.slice (some ⟨g, 0, none⟩) 4096 c5) (some (.int .i64 12)) none none).run Tryd.prog W = .ok (.slice (some ⟨g, 12, none⟩) 4084 (c5 - 12)) W := slice1c g 12 4096 c5 (by omega) hnc5
  have HOd : Hid (Own w5.drew w0.heap.size 5 (.slice (some ⟨g, 0, none⟩) 4096 c5) (headB k nn ++ (zsB 4 ++ padB l))) := HO5.out
  have HBd : Hid (Below w0.heap.size w0 w5.drew) := HB5.out.drew
  clear hgb hl5 HO5 HB5 HO4 HB4 HO3 HB3 HO2 HB2
  refine wp_region_T (R := fun x y => Below x.heap.size x y) (by kernel_rfl) (fun _ => Below.refl _ _) (fun h k => h.trans (k.mono h.size)) (by kernel_rfl) 6 rfl (by kernel_rfl) (by kernel_rfl) (fun d v c a w h => by cases d <;> exact h)
    [(0, false), (1, false), (2, false), (3, true), (4, false), (5, true)] rfl (by kernel_rfl) ?_
  simp only [sel, List.getElem?_toArray, List.getElem?_cons_succ, List.getElem?_cons_zero]
  generalize w5.drew = wd at *
  iterate 3 (refine schT_take ?_ rfl ?_ ?_; rotate_left; (focus (intro u hu; go_simp <;> rfl)); simp only [Act.put, List.setIfInBounds_toArray, List.set_cons_zero, List.set_cons_succ])
  refine schT_call rfl ?_
  intro K hK
  go_simp
  refine (r5sum_any _ _ _ HOd.out.byt (by rw [row4_len k nn HL.out]; omega) (by rw [row4_len k nn HL.out]; omega)).mono ?_
  rw [row4_sum]; have HSL := Lib.hid (sumC_lt (headB k nn ++ zsB 4 ++ padB l)); generalize hsm : sumC (headB k nn ++ zsB 4 ++ padB l) = sm at *; have HSM := Lib.hid hsm; clear hsm; rintro e w8 ⟨rfl, hb8⟩
  go_wp2_with fail
  refine hK _ _ hb8 ?_
  clear hK K
  have HO8 := Lib.hid (Own.keep HOd.out hb8)
  have HB8 := Lib.hid (HBd.out.trans (hb8.mono HBd.out.size))
  have hsl := HSL.out
  clear hb8
  refine schT_take (.int .u64 (sm : Int)) rfl (fun u _ => conv64 u sm hsl _ _ rfl rfl) ?_
  simp only [Act.put, List.setIfInBounds_toArray, List.set_cons_zero, List.set_cons_succ]
  refine schT_call rfl ?_
  intro K hK
  go_simp
  refine (refword_is _ _ [] sm 4 (Byt.nil _) (by omega) (by omega) (by simp)).mono ?_
  rintro e w9 ⟨v9, rfl, hown9, hb9⟩
  go_wp2_with fail
  refine hK _ _ hb9 ?_
  clear hK K
  have HO9 := Lib.hid (Own.keep HO8.out hb9)
  have HB9 := Lib.hid (HB8.out.trans (hb9.mono HB8.out.size))
  have HR9 := Lib.hid hown9
  obtain ⟨A9, n9, c9, rfl, N9, hnc9, hcm9⟩ := hown9.byt.form
  clear hown9 hb9
  refine schT_nil ?_
  refine schT_last rfl rfl ?_
  refine wp_copyO 46 (.tmp 41) (.tmp 45) rfl rfl g 12 4096 c5 4084 (c5 - 12) _ (wordB 4 sm) _ rfl rfl (HO9.out.lower (Nat.zero_le _)) HR9.out.byt (by rw [wordB_len]; omega) (by omega) ?_
  intro w10 hown10 ht10 hs10
  rw [← HSM.out, ← row4_sum, row5] at hown10
  have HO10 := Lib.hid hown10
  have HB10 := Lib.hid (HB9.out.trans (ht10.below HB9.out.size (fun _ e => e ▸ HGB.out)))
  clear hown10 ht10 hs10
  go_wp2_with fail
  go_ret2
  exact ⟨_, rfl, HO10.out.lift (Nat.le_trans HB0.out.size HGB.out), HB0.out.trans (HB10.out.mono HB0.out.size)⟩
end Go.Proofs.YtknagdbhhfelnaaDoor

