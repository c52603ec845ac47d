/-
  The texts PgI, PgJ, PgK, PgL in one. Conditions: as each part says.
-/
import Derived.Test.YtknagdbhhfelnaaDoorMg5
import Derived.Test.YtknagdbhhfelnaaDoorCRd1
import Derived.Test.YtknagdbhhfelnaaDoorMg1
import Derived.Test.YtknagdbhhfelnaaDoorMg4
/-
  The document's readers: see Rd1, where they stand since round 8; this text only brings them behind the pages. Conditions: none.
-/

/-
  The document's pages (tallymanref05): sum, Bytes by their contracts. Conditions: none.
-/
namespace Go.Proofs.YtknagdbhhfelnaaDoor
open Go.RowKit Go.Maps
set_option maxRecDepth 100000

def fillZ (l : List UInt8) (k : Nat) : List UInt8 := l.take 12 ++ (zsB (k - 12) ++ l.drop k)
theorem fillZ_start (l : List UInt8) : fillZ l 12 = l := by unfold fillZ zsB; simp
theorem fillZ_len {l : List UInt8} {k : Nat} (h1 : 12 ≤ k) (h2 : k ≤ l.length) : (fillZ l k).length = l.length := by
  unfold fillZ
  simp only [List.length_append, List.length_take, List.length_drop, zsB_len]
  omega
theorem fillZ_set {l : List UInt8} {k : Nat} (h1 : 12 ≤ k) (h2 : k < l.length) : (fillZ l k).set k 0 = fillZ l (k + 1) := by
  unfold fillZ
  have e1 : (l.take 12 ++ (zsB (k - 12) ++ l.drop k)) = (l.take 12 ++ zsB (k - 12)) ++ l.drop k := by simp
  have hl : (l.take 12 ++ zsB (k - 12)).length = k := by rw [List.length_append, List.length_take, zsB_len]; omega
  rw [e1, List.set_append_right _ _ (by omega), hl, Nat.sub_self, List.drop_eq_getElem_cons h2, List.set_cons_zero]
  rw [show k + 1 - 12 = (k - 12) + 1 by omega, zs_split, show zsB 1 = [0] from rfl]
  simp
theorem fillZ_end (l : List UInt8) : sumC (fillZ l 16) = sumB l := by
  unfold fillZ sumB
  rw [show 16 - 12 = 4 from rfl, List.append_assoc]
theorem own_base {w : World} {B g n c : Nat} {e : TypeId} {l : List UInt8} (h : Own w B e (.slice (some ⟨g, 0, none⟩) n c) l) : B ≤ g := by
  rcases h.2 with ⟨e, _⟩ | ⟨g', _, _, e, hb, _⟩
  · cases e
  · simp at e
    omega
def FillRel (w : World) (g n c : Nat) (l : List UInt8) (i : Value) (wr : World) : Prop :=
  ∃ k : Nat, 12 ≤ k ∧ k ≤ 16 ∧ i = .int .i64 (k : Int) ∧ Own wr w.heap.size 5 (.slice (some ⟨g, 0, none⟩) n c) (fillZ l k) ∧ Below w.heap.size w wr
set_option maxRecDepth 100000 in
set_option maxHeartbeats 2000000 in
theorem r5sum_any (w : World) (v : Value) (l : List UInt8) (hv : Byt w v l) (hl : 16 ≤ l.length) (hlen : l.length ≤ 10000) :
    Calls Tryd.prog 36 #[v] w (Word32 w (sumB l)) := by
  obtain ⟨i0, hi0, hz0, hz1, hz2⟩ := info_parts uinfo
  have HV := Lib.hid hv
  have HE := Lib.hid (Own.empty w)
  have HL := Lib.hid hl
  have HLN := Lib.hid hlen
  clear hv
  go_enter Tryd.func36, Tryd.ntmps36
  go_wp2_with (at_builtin; refine wpList_app _ rfl (.tmp 5) (.tmp 6) _ rfl w.heap.size 5 i0 _ Tryd.underlying27 hi0 hz0 hz1 hz2 rfl _ [] rfl HE.out _ l rfl (HV.out.alloc _) (by simp; omega) (by simp) ?_; intro v1 w1 hown1 hg1 hat1; have HB1 := Lib.hid (below_own (below_new w _) (by simp) HE.out hg1); rw [List.nil_append] at hown1; rcases hown1.2 with ⟨_, e0⟩ | ⟨g, c, cur, rfl, hgb, _, hnc, hcm, _⟩; (exfalso; omega); have HO1 := Lib.hid hown1; clear hg1 hat1 hown1)
  unfold maxLen at hcm
  have hlI : (16 : Int) ≤ (l.length : Int) := by omega
  generalize hn : l.length = n at *
  have HN := Lib.hid hn
  clear hn
  go_loopw [4] (fun i wr => FillRel w g n c l i wr) (fun i _ => 16 - (intOf i).toNat)
  case atStart => exact ⟨12, by omega, by omega, rfl, by rw [fillZ_start]; exact HO1.out, HB1.out⟩
  case round =>
    obtain ⟨k, hk1, hk2, rfl, hown, hbel⟩ := hrel
    have HO := Lib.hid hown
    have HB := Lib.hid hbel
    have hfl := fillZ_len hk1 (by have := HN.out; omega : k ≤ l.length)
    by_cases hlt : k < 16
    · have hcell := own_cell hown (j := k) (by have := HN.out; omega)
      have hfr : wr.frozen? ⟨g, k, none⟩ = false := by
        have := hown
        unfold Own at this
        rw [hfl, HN.out] at this
        exact World.ownsRow.frozenAt this k
      have HS := Lib.hid (own_set hown (hfl.trans HN.out) k 0)
      have hb0 : w.heap.size ≤ g := own_base hown
      have HB2 := Lib.hid (hbel.setCell (p := ⟨g, k, none⟩) hb0 (.int .u8 0))
      have HST := Lib.hid (fillZ_set hk1 (by have := HN.out; omega : k < l.length))
      have hkn : (k : Int) < (n : Int) := by omega
      have hz : ((0 : UInt8).toNat : Int) = 0 := rfl
      rw [hz] at HS
      clear hown hbel hfl hb0
      generalize ((fillZ l k).getD k 0).toNat = y at *
      go_wp2_with fail
      go_roundw
      case rel => exact ⟨k + 1, by omega, by omega, by go_num, by rw [← HST.out]; exact HS.out, HB2.out⟩
      case measure => simp [intOf]; omega
    · obtain rfl : k = 16 := by omega
      clear hown hbel
      go_wp2_with fail
      have hsum := refsum_any wr _ (fillZ l 16) HO.out.byt (by have := HN.out; omega)
      rw [fillZ_end] at hsum
      refine hsum.mono ?_
      clear hsum
      rintro e w3 ⟨rfl, hb3⟩
      generalize sumB l = sm at *
      go_wp2_with fail
      go_ret
      exact ⟨rfl, HB.out.trans (hb3.mono HB.out.size)⟩
theorem slice1c (g a n c : Nat) (ha : a < n) (hc : n ≤ c) : ∀ W, (Instr.slice 27 (.slice (some ⟨g, 0, none⟩) n c) (some (.int .i64 (a : Int))) none none).run Tryd.prog W = .ok (.slice (some ⟨g, a, none⟩) (n - a) (c - a)) W := by
  intro W
  rw [run_slice_l W 27 _ n c elemByte .i64 (a : Int) (by omega) (by omega), sizeByte]
  simp only [Result.andThen, sliced, Int.toNat_natCast]
  rw [if_neg (by omega)]
  simp [plainAdd]
set_option maxHeartbeats 1000000 in
theorem r5bytes_bad (w : World) (k n : Int) (vb : Value) (l : List UInt8) (hv : Byt w vb l) (h : ¬ ((1 ≤ k ∧ k ≤ 7) ∧ l.length ≤ 4080)) :
    Calls Tryd.prog 17 #[.agg (pageV k n vb)] w (Refused w 2) := by
  obtain ⟨A, m, c, rfl, N, hnc, hcm⟩ := hv.form
  have HB := Lib.hid (below_new w (.cells (pageV k n (.slice A m c)) 48))
  clear hv
  unfold pageV at *
  by_cases h1 : k < 1
  · go_enter Tryd.func17, Tryd.ntmps17
    go_wp2_with fail
    go_ret2
    exact ⟨rfl, HB.out⟩
  · by_cases h7 : 7 < k
    · go_enter Tryd.func17, Tryd.ntmps17
      go_wp2_with fail
      go_ret2
      exact ⟨rfl, HB.out⟩
    · have hm : (4080 : Int) < (m : Int) := by have := N.out; omega
      clear h
      go_enter Tryd.func17, Tryd.ntmps17
      go_wp2_with fail
      go_ret2
      exact ⟨rfl, HB.out⟩
set_option maxRecDepth 100000 in
set_option maxHeartbeats 8000000 in
theorem r5bytes_ok (w : World) (k nn : Nat) (vb : Value) (l : List UInt8) (hv : Byt w vb l) (h1 : 1 ≤ k) (h7 : k ≤ 7) (hl : l.length ≤ 4080) (hnn : nn < 4294967296) :
    Calls Tryd.prog 17 #[.agg (pageV (k : Int) (nn : Int) vb)] w (MadeE w (pageB k nn l)) := by
  obtain ⟨i0, hi0, hz0, hz1, hz2⟩ := info_parts uinfo
  obtain ⟨A, m, c, rfl, N, hnc, hcm⟩ := hv.form
  have HV := Lib.hid hv
  have HL := Lib.hid hl
  have HNN := Lib.hid hnn
  have hm : ¬ (4080 : Int) < (m : Int) := by have := N.out; omega
  have hk1 : ¬ (k : Int) < 1 := by omega
  have hk7 : ¬ (7 : Int) < (k : Int) := by omega
  obtain ⟨w0, hw0⟩ : ∃ w0, w.alloc (.cells (pageV k nn (.slice A m c)) 48) = w0 := ⟨_, rfl⟩
  have HX0 : Hid (Box w0 w.heap.size k nn (.slice A m c)) := hw0 ▸ Box.new w k nn _
  have HB0 : Hid (Below w.heap.size w w0) := hw0 ▸ below_new w _
  have HW0 := Lib.hid hw0
  have hk8 : (k : Int) = ((UInt8.ofNat k).toNat : Int) := byte_nat k (by omega)
  obtain ⟨w1, hw1⟩ : ∃ w1, w0.alloc (.cells #[.int .u8 84, .int .u8 77, .int .u8 1, .int .u8 (k : Int)] 5) = w1 := ⟨_, rfl⟩
  have hsz0 : w0.heap.size = w.heap.size + 1 := by rw [← hw0]; simp
  have HR1 : Hid (Byt w1 (.slice (some ⟨w.heap.size + 1, 0, none⟩) 4 4) [84, 77, 1, UInt8.ofNat k]) := by
    rw [Hid, ← hw1, ← hsz0, hk8]
    exact Byt.lit w0 5 [84, 77, 1, UInt8.ofNat k] (0, 0) (by simp [maxLen])
  have HB1 : Hid (Below w0.heap.size w0 w1) := hw1 ▸ below_new w0 _
  have HW1 := Lib.hid hw1
  have HSZ := Lib.hid hsz0
  unfold pageV at HW0 ⊢
  clear hv hl hw0 hw1 h1 h7 hsz0 hk8
  have c1 := (HX0.out.below HB1.out).cells.2.1
  rw [← HW1.out, ← HW0.out] at c1
  go_enter Tryd.func17, Tryd.ntmps17
  go_wp2_with fail
  rw [HW0.out, HW1.out]
  clear c1
  refine (refword_is w1 _ _ nn 4 HR1.out (by omega) (by omega) (by simp)).mono ?_
  rintro e w2 ⟨v2, rfl, hown2, hb2⟩
  have HB2 := Lib.hid (HB1.out.trans (hb2.mono HB1.out.size))
  have HO2 := Lib.hid (hown2.lower HB1.out.size)
  have HLZ : Hid (l.length ≤ 4080) := HL.out
  have hz8 : (byc (zsB 8)).toArray = #[.int .u8 0, .int .u8 0, .int .u8 0, .int .u8 0, .int .u8 0, .int .u8 0, .int .u8 0, .int .u8 0] := rfl
  have HL8 := Lib.hid (Byt.lit w2 5 (zsB 8) (0, 0) (by simp [maxLen, zsB]))
  rw [hz8] at HL8
  clear hown2 hb2 hz8
  have HN3 : Hid (([84, 77, 1, UInt8.ofNat k] ++ wordB 4 nn ++ zsB 8).length = 16) := by rw [Hid, List.length_append, List.length_append, wordB_len, zsB_len]; rfl
  have HN4 : Hid (([84, 77, 1, UInt8.ofNat k] ++ wordB 4 nn ++ zsB 8 ++ l).length = 16 + l.length) := by rw [Hid, List.length_append, HN3.out]
  have HN2 : Hid (([84, 77, 1, UInt8.ofNat k] ++ wordB 4 nn).length = 8) := by rw [Hid, List.length_append, wordB_len]; rfl
  have HROW : Hid ([84, 77, 1, UInt8.ofNat k] ++ wordB 4 nn ++ zsB 8 ++ l ++ zsB (4080 - l.length) = headB k nn ++ (zsB 4 ++ padB l)) := by
    rw [Hid]
    unfold headB padB
    rw [show (8 : Nat) = 4 + 4 from rfl, zs_split]
    simp only [List.append_assoc]
  go_wp2_with (first
    | (at_builtin; refine wpList_app _ rfl (.tmp 28) (.tmp 29) _ rfl w0.heap.size 5 i0 _ Tryd.underlying27 hi0 hz0 hz1 hz2 rfl _ _ rfl (World.ownsRow.alloc HO2.out _) _ (zsB 8) rfl HL8.out (by rw [HN2.out, zsB_len]; omega) (by have := HB2.out.size; simp; omega) ?_; intro v3 w3 hown3 hg3 hat3; have HB3 := Lib.hid (below_own (HB2.out.alloc HB2.out.size _) (by have := HB2.out.size; simp; omega) (World.ownsRow.alloc HO2.out _) hg3); have HO3 := Lib.hid hown3; have c2 := (HX0.out.below HB3.out).cells.2.2; clear hown3 hg3 hat3)
    | (at_builtin; refine wpList_app _ rfl (.tmp 31) (.tmp 33) _ rfl w0.heap.size 5 i0 _ Tryd.underlying27 hi0 hz0 hz1 hz2 rfl _ _ rfl HO3.out _ l rfl (HV.out.below (HB0.out.trans (HB3.out.mono HB0.out.size))) (by rw [HN3.out]; have := HL.out; omega) HB3.out.size ?_; intro v4 w4 hown4 hg4 hat4; have HB4 := Lib.hid (below_own HB3.out HB3.out.size HO3.out hg4); have HO4 := Lib.hid hown4; obtain ⟨A4, n4, c4, rfl, N4, hnc4, hcm4⟩ := hown4.byt.form; have HN4' := Lib.hid (N4.out.trans HN4.out); have hn4' : (n4 : Int) ≤ 4096 := (by have := HL.out; have := HN4'.out; omega); clear hown4 hg4 hat4 c2 N4)
    | (at_builtin; refine wpList_appM rfl (.tmp 35) (.tmp 38) rfl w0.heap.size _ _ rfl HO4.out _ (4080 - l.length) rfl (by have := HL.out; have := HN4'.out; omega) (by rw [HN4.out]; have := HL.out; omega) HB4.out.size ?_; intro v5 w5 hown5 hg5; have HB5 := Lib.hid (below_own HB4.out HB4.out.size HO4.out hg5); rw [HROW.out] at hown5; have HO5 := Lib.hid hown5; have hl5 := row4_len k nn HL.out; rcases hown5.2 with ⟨_, e0⟩ | ⟨g, c5, cur, rfl, hgb, _, hnc5, hcm5, _⟩; (exfalso; omega); rw [hl5] at HO5 hnc5 ⊢; clear hg5 hown5))
  have HGB : Hid (w0.heap.size ≤ g) := hgb
  have s12 : ∀ W, (Instr.slice 27 (.slice (some ⟨g, 0, none⟩) 4096 c5) (some (.int .i64 12)) none none).run Tryd.prog W = .ok (.slice (some ⟨g, 12, none⟩) 4084 (c5 - 12)) W := slice1c g 12 4096 c5 (by omega) hnc5
  have HOd : Hid (Own w5.drew w0.heap.size 5 (.slice (some ⟨g, 0, none⟩) 4096 c5) (headB k nn ++ (zsB 4 ++ padB l))) := HO5.out
  have HBd : Hid (Below w0.heap.size w0 w5.drew) := HB5.out.drew
  clear hgb hl5 HO5 HB5 HO4 HB4 HO3 HB3 HO2 HB2
  refine wp_region_T (R := fun x y => Below x.heap.size x y) (by kernel_rfl) (fun _ => Below.refl _ _) (fun h k => h.trans (k.mono h.size)) (by kernel_rfl) 6 rfl (by kernel_rfl) (by kernel_rfl) (fun d v c a w h => by cases d <;> exact h)
    [(0, false), (1, false), (2, false), (3, true), (4, false), (5, true)] rfl (by kernel_rfl) ?_
  simp only [sel, List.getElem?_toArray, List.getElem?_cons_succ, List.getElem?_cons_zero]
  generalize w5.drew = wd at *
  iterate 3 (refine schT_take ?_ rfl ?_ ?_; rotate_left; (focus (intro u hu; go_simp <;> rfl)); simp only [Act.put, List.setIfInBounds_toArray, List.set_cons_zero, List.set_cons_succ])
  refine schT_call rfl ?_
  intro K hK
  go_simp
  refine (r5sum_any _ _ _ HOd.out.byt (by rw [row4_len k nn HL.out]; omega) (by rw [row4_len k nn HL.out]; omega)).mono ?_
  rw [row4_sum]; have HSL := Lib.hid (sumC_lt (headB k nn ++ zsB 4 ++ padB l)); generalize hsm : sumC (headB k nn ++ zsB 4 ++ padB l) = sm at *; have HSM := Lib.hid hsm; clear hsm; rintro e w8 ⟨rfl, hb8⟩
  go_wp2_with fail
  refine hK _ _ hb8 ?_
  clear hK K
  have HO8 := Lib.hid (Own.keep HOd.out hb8)
  have HB8 := Lib.hid (HBd.out.trans (hb8.mono HBd.out.size))
  have hsl := HSL.out
  clear hb8
  refine schT_take (.int .u64 (sm : Int)) rfl (fun u _ => conv64 u sm hsl _ _ rfl rfl) ?_
  simp only [Act.put, List.setIfInBounds_toArray, List.set_cons_zero, List.set_cons_succ]
  refine schT_call rfl ?_
  intro K hK
  go_simp
  refine (refword_is _ _ [] sm 4 (Byt.nil _) (by omega) (by omega) (by simp)).mono ?_
  rintro e w9 ⟨v9, rfl, hown9, hb9⟩
  go_wp2_with fail
  refine hK _ _ hb9 ?_
  clear hK K
  have HO9 := Lib.hid (Own.keep HO8.out hb9)
  have HB9 := Lib.hid (HB8.out.trans (hb9.mono HB8.out.size))
  have HR9 := Lib.hid hown9
  obtain ⟨A9, n9, c9, rfl, N9, hnc9, hcm9⟩ := hown9.byt.form
  clear hown9 hb9
  refine schT_nil ?_
  refine schT_last rfl rfl ?_
  refine wp_copyO 46 (.tmp 41) (.tmp 45) rfl rfl g 12 4096 c5 4084 (c5 - 12) _ (wordB 4 sm) _ rfl rfl (HO9.out.lower (Nat.zero_le _)) HR9.out.byt (by rw [wordB_len]; omega) (by omega) ?_
  intro w10 hown10 ht10 hs10
  rw [← HSM.out, ← row4_sum, row5] at hown10
  have HO10 := Lib.hid hown10
  have HB10 := Lib.hid (HB9.out.trans (ht10.below HB9.out.size (fun _ e => e ▸ HGB.out)))
  clear hown10 ht10 hs10
  go_wp2_with fail
  go_ret2
  exact ⟨_, rfl, HO10.out.lift (Nat.le_trans HB0.out.size HGB.out), HB0.out.trans (HB10.out.mono HB0.out.size)⟩
end Go.Proofs.YtknagdbhhfelnaaDoor

/-
  The document's pages (tallymanref05): Read, Kind by their contracts. Conditions: none.
-/
namespace Go.Proofs.YtknagdbhhfelnaaDoor
open Go.RowKit Go.Maps
set_option maxRecDepth 100000

/-- What lies in memory, and stands in the slots, while the page is told: which of the operations are done. -/
structure RdSt (w : World) (p g x nw : Nat) (l : List UInt8) (d2 d3 d5 d6 d7 d10 d11 d12 : Bool) (t5 t17 t18 t20 t21 t22 t25 t26 : Value) (u : World) : Prop where
  bel : Below w.heap.size w u
  boxp : Box u p 0 0 (.slice none 0 0)
  rd : d5 = false → RRdr u g ((l.drop 4).take 4)
  e17 : d2 = true → t17 = .int .u8 (x : Int)
  e18 : d3 = true → t18 = .int .i64 (x : Int)
  e20 : d5 = true → t20 = .int .u64 (nw : Int)
  e21 : d6 = true → t21 = .int .u32 (nw : Int)
  r22 : d7 = true → d10 = false → Own u w.heap.size 5 t22 []
  r25 : d10 = true → Own u w.heap.size 5 t25 (l.drop 16)
  e26 : d11 = true → t26 = .agg (pageV (x : Int) (nw : Int) t25)
  b5 : d12 = true → ∃ q, t5 = .pointer (some ⟨q, 0, none⟩) ∧ w.heap.size ≤ q ∧ q ≠ p ∧ Box u q 0 0 (.slice none 0 0)
section
variable {w u u' : World} {p g x nw : Nat} {l : List UInt8} {d2 d3 d5 d6 d7 d10 d11 d12 : Bool} {t5 t17 t18 t20 t21 t22 t25 t26 : Value} {a : Act} {o : Oper} {K : Act → World → Prop} {Q : Exit → Act → World → Prop}
theorem RdSt.below (h : RdSt w p g x nw l d2 d3 d5 d6 d7 d10 d11 d12 t5 t17 t18 t20 t21 t22 t25 t26 u) (hb : Below u.heap.size u u') : RdSt w p g x nw l d2 d3 d5 d6 d7 d10 d11 d12 t5 t17 t18 t20 t21 t22 t25 t26 u' :=
  ⟨h.bel.trans (hb.mono h.bel.size), h.boxp.below hb, fun e => (h.rd e).below hb, h.e17, h.e18, h.e20, h.e21, fun e1 e2 => Own.keep (h.r22 e1 e2) hb, fun e => Own.keep (h.r25 e) hb, h.e26, fun e => by
    obtain ⟨q, e1, e2, e3, e4⟩ := h.b5 e
    exact ⟨q, e1, e2, e3, e4.below hb⟩⟩
theorem own_grownR {B k : Nat} {v : Value} {m : List UInt8} {cur : Array Value} {t : TypeId} {f : Nat × Nat} (h : Own u B 5 v m) (hg : u.grownBy u' (some k)) (hk : u.heap[k]? = some (.cells cur t f)) (ht : 5 ≠ t) : Own u' B 5 v m :=
  ownsRow_sameB h (fun i hi => by
    obtain ⟨c2, h2⟩ := ownsRow_block (h.lower (Nat.zero_le _)) hi
    have hne : i ≠ k := tag_ne h2 hk ht
    exact hg.block i (Array.getElem?_eq_some_iff.1 h2).1 (by simpa using hne))
theorem box_grownR {q k : Nat} {kd n : Int} {vb : Value} {cur : Array Value} {t : TypeId} {f : Nat × Nat} (h : Box u q kd n vb) (hg : u.grownBy u' (some k)) (hk : u.heap[k]? = some (.cells cur t f)) (ht : 48 ≠ t) : Box u' q kd n vb :=
  h.grown hg (tag_ne h hk ht)
theorem st2 {b off : Nat} (e : a.eval (.tmp 16) = .pointer (some ⟨b, off, none⟩)) (hc : u.cell? ⟨b, off, none⟩ = some (.int .u8 (x : Int))) (ho : o.op = .load 5 (.tmp 16)) (hd : o.dst = some 17) (hK : K (a.put (some 17) (.int .u8 (x : Int))) u) : o.wp Tryd.prog a u K Q := by
  obtain ⟨dst, op, type, pos, after, guard⟩ := o
  simp only at ho hd
  subst ho hd
  unfold Oper.wp
  generalize a.eval = ρ at *
  go_simp
  exact hK
theorem st3 (e : a.eval (.tmp 17) = .int .u8 (x : Int)) (hx : x < 256) (ho : o.op = .convert 5 3 (.tmp 17)) (hd : o.dst = some 18) (hK : K (a.put (some 18) (.int .i64 (x : Int))) u) : o.wp Tryd.prog a u K Q := by
  obtain ⟨dst, op, type, pos, after, guard⟩ := o
  simp only at ho hd
  subst ho hd
  have hw : IntKind.i64.wrap (x : Int) = (x : Int) := by rw [IntKind.wrap_i64]; omega
  unfold Oper.wp
  generalize a.eval = ρ at *
  go_simp
  first | exact hK | (rw [hw]; exact hK)
theorem st6 (e : a.eval (.tmp 20) = .int .u64 (nw : Int)) (hx : nw < 4294967296) (ho : o.op = .convert 84 44 (.tmp 20)) (hd : o.dst = some 21) (hK : K (a.put (some 21) (.int .u32 (nw : Int))) u) : o.wp Tryd.prog a u K Q := by
  obtain ⟨dst, op, type, pos, after, guard⟩ := o
  simp only at ho hd
  subst ho hd
  have hw : IntKind.u32.wrap (nw : Int) = (nw : Int) := by rw [IntKind.wrap_u32]; omega
  unfold Oper.wp
  generalize a.eval = ρ at *
  go_simp
  first | exact hK | (rw [hw]; exact hK)
theorem st5 (e : a.eval (.tmp 19) = .pointer (some ⟨g, 0, none⟩)) (hr : RRdr u g ((l.drop 4).take 4)) (hl : ((l.drop 4).take 4).length = 4) (ho : o.op = .call { callee := .value (.func 42), args := #[.tmp 19, .const (.int .i64 4)], argTypes := #[89, 3] }) (hd : o.dst = some 20) (hK : ∀ u', u.grownBy u' (some g) → K (a.put (some 20) (.int .u64 (wordN ((l.drop 4).take 4) : Int))) u') : o.wp Tryd.prog a u K Q := by
  obtain ⟨dst, op, type, pos, after, guard⟩ := o
  simp only at ho hd
  subst ho hd
  unfold Oper.wp
  have hcall := rrword_is u g _ hr hl
  generalize wordN ((l.drop 4).take 4) = nn at *
  have hev : a.eval (.const (.int .i64 4)) = .int .i64 4 := rfl
  have hev2 : a.eval (.func 42) = .func (.func 42) #[] #[] := rfl
  generalize a.eval = ρ at *
  go_simp
  refine hcall.mono ?_
  rintro e' w1 ⟨rfl, hg1⟩
  exact hK _ hg1
theorem st7 (ho : o.op = .buildSlice 27 0 #[]) (hd : o.dst = some 22) (hK : K (a.put (some 22) (.slice (some ⟨u.heap.size, 0, none⟩) 0 0)) (u.alloc (.cells #[] 5))) : o.wp Tryd.prog a u K Q := by
  obtain ⟨dst, op, type, pos, after, guard⟩ := o
  simp only at ho hd
  subst ho hd
  unfold Oper.wp
  generalize a.eval = ρ at *
  go_simp
  exact hK
theorem st11 {A : Option Addr} {n c : Nat} (e1 : a.eval (.tmp 18) = .int .i64 (x : Int)) (e2 : a.eval (.tmp 21) = .int .u32 (nw : Int)) (e3 : a.eval (.tmp 25) = .slice A n c) (ho : o.op = .build 48 #[(0, .tmp 18), (1, .tmp 21), (2, .tmp 25)]) (hd : o.dst = some 26) (hK : K (a.put (some 26) (.agg (pageV (x : Int) (nw : Int) (.slice A n c)))) u) : o.wp Tryd.prog a u K Q := by
  obtain ⟨dst, op, type, pos, after, guard⟩ := o
  simp only at ho hd
  subst ho hd
  unfold Oper.wp
  unfold pageV at hK
  generalize a.eval = ρ at *
  go_simp
  exact hK
theorem st12 (ho : o.op = .alloc 48) (hd : o.dst = some 5) (hK : K (a.put (some 5) (.pointer (some ⟨u.heap.size, 0, none⟩))) (u.alloc (.cells (pageV 0 0 (.slice none 0 0)) 48))) : o.wp Tryd.prog a u K Q := by
  obtain ⟨dst, op, type, pos, after, guard⟩ := o
  simp only at ho hd
  subst ho hd
  unfold Oper.wp
  unfold pageV at hK
  generalize a.eval = ρ at *
  go_simp
  exact hK
theorem st13 {q : Nat} {A : Option Addr} {n c : Nat} (hb : Box u q 0 0 (.slice none 0 0)) (e1 : a.eval (.tmp 5) = .pointer (some ⟨q, 0, none⟩)) (e2 : a.eval (.tmp 26) = .agg (pageV (x : Int) (nw : Int) (.slice A n c))) (ho : o.op = .store 48 (.tmp 5) (.tmp 26)) (hd : o.dst = none)
    (hK : K a (((u.setCell ⟨q, 0, none⟩ (.int .i64 (x : Int))).setCell ⟨q, 1, none⟩ (.int .u32 (nw : Int))).setCell ⟨q, 2, none⟩ (.slice A n c))) : o.wp Tryd.prog a u K Q := by
  obtain ⟨dst, op, type, pos, after, guard⟩ := o
  simp only at ho hd
  subst ho hd
  obtain ⟨c0, c1, c2⟩ := hb.cells
  have f0 := hb.frozen 0
  have f1 := hb.frozen 1
  have f2 := hb.frozen 2
  clear hb
  unfold pageV at e2
  unfold Oper.wp
  generalize a.eval = ρ at *
  go_simp
  exact hK
end
def lst4 (d2 d3 d5 d6 d7 d10 d11 d12 d13 : Bool) : Array Bool := #[true, true, d2, d3, true, d5, d6, d7, true, true, d10, d11, d12, d13]
def rdy4 (d2 d3 d5 d6 d7 d10 d11 d12 : Bool) : List Nat := (if d2 then [] else [2]) ++ ((if d2 && !d3 then [3] else []) ++ ((if d5 then [] else [5]) ++ ((if d5 && !d6 then [6] else []) ++ ((if d7 then [] else [7]) ++ ((if d5 && d7 && !d10 then [10] else []) ++ ((if d3 && d6 && d10 && !d11 then [11] else []) ++ ((if d12 then [] else [12]) ++ (if d11 && d12 then [13] else []))))))))
def okF (d2 d3 d5 d6 d7 d10 d11 _d12 : Bool) : Prop := (d3 = true → d2 = true) ∧ (d6 = true → d5 = true) ∧ (d10 = true → d5 = true ∧ d7 = true) ∧ (d11 = true → d3 = true ∧ d6 = true ∧ d10 = true)
def lef (d : Bool) : Nat := if d then 0 else 1
theorem lst4_2 {d2 d3 d5 d6 d7 d10 d11 d12 d13 : Bool} : (lst4 d2 d3 d5 d6 d7 d10 d11 d12 d13).setIfInBounds 2 true = lst4 true d3 d5 d6 d7 d10 d11 d12 d13 := rfl
theorem lst4_3 {d2 d3 d5 d6 d7 d10 d11 d12 d13 : Bool} : (lst4 d2 d3 d5 d6 d7 d10 d11 d12 d13).setIfInBounds 3 true = lst4 d2 true d5 d6 d7 d10 d11 d12 d13 := rfl
theorem lst4_5 {d2 d3 d5 d6 d7 d10 d11 d12 d13 : Bool} : (lst4 d2 d3 d5 d6 d7 d10 d11 d12 d13).setIfInBounds 5 true = lst4 d2 d3 true d6 d7 d10 d11 d12 d13 := rfl
theorem lst4_6 {d2 d3 d5 d6 d7 d10 d11 d12 d13 : Bool} : (lst4 d2 d3 d5 d6 d7 d10 d11 d12 d13).setIfInBounds 6 true = lst4 d2 d3 d5 true d7 d10 d11 d12 d13 := rfl
theorem lst4_7 {d2 d3 d5 d6 d7 d10 d11 d12 d13 : Bool} : (lst4 d2 d3 d5 d6 d7 d10 d11 d12 d13).setIfInBounds 7 true = lst4 d2 d3 d5 d6 true d10 d11 d12 d13 := rfl
theorem lst4_10 {d2 d3 d5 d6 d7 d10 d11 d12 d13 : Bool} : (lst4 d2 d3 d5 d6 d7 d10 d11 d12 d13).setIfInBounds 10 true = lst4 d2 d3 d5 d6 d7 true d11 d12 d13 := rfl
theorem lst4_11 {d2 d3 d5 d6 d7 d10 d11 d12 d13 : Bool} : (lst4 d2 d3 d5 d6 d7 d10 d11 d12 d13).setIfInBounds 11 true = lst4 d2 d3 d5 d6 d7 d10 true d12 d13 := rfl
theorem lst4_12 {d2 d3 d5 d6 d7 d10 d11 d12 d13 : Bool} : (lst4 d2 d3 d5 d6 d7 d10 d11 d12 d13).setIfInBounds 12 true = lst4 d2 d3 d5 d6 d7 d10 d11 true d13 := rfl
theorem lst4_13 {d2 d3 d5 d6 d7 d10 d11 d12 d13 : Bool} : (lst4 d2 d3 d5 d6 d7 d10 d11 d12 d13).setIfInBounds 13 true = lst4 d2 d3 d5 d6 d7 d10 d11 d12 true := rfl
theorem rdy4_ne {d2 d3 d5 d6 d7 d10 d11 d12 : Bool} (h : okF d2 d3 d5 d6 d7 d10 d11 d12) : rdy4 d2 d3 d5 d6 d7 d10 d11 d12 ≠ [] := by
  revert h
  cases d2 <;> cases d3 <;> cases d5 <;> cases d6 <;> cases d7 <;> cases d10 <;> cases d11 <;> cases d12 <;> simp [rdy4, okF]
theorem box_grownO {u u' : World} {q B : Nat} {kd n : Int} {vb v : Value} {m : List UInt8} (h : Box u q kd n vb) (ho : Own u B 5 v m) (hg : u.grownBy u' v.ownBlock) : Box u' q kd n vb :=
  (hg.block q h.lt (fun e => by
    obtain ⟨c2, h2⟩ := ownsRow_block (ho.lower (Nat.zero_le _)) e.symm
    exact tag_ne h2 h (by decide) rfl)).trans h
set_option maxRecDepth 100000 in
set_option maxHeartbeats 4000000 in
theorem reg4 {w : World} {p g x nw b off : Nat} {l : List UInt8} {vs : Value} {f : Value → Value → Value → Value → Value → Value → Value → Value → Act} {ops : Array Oper} {Q : Exit → Act → World → Prop}
    (h2 : OpAt ops 2 (.load 5 (.tmp 16)) (some 17)) (h3 : OpAt ops 3 (.convert 5 3 (.tmp 17)) (some 18)) (h5 : OpAt ops 5 (.call { callee := .value (.func 42), args := #[.tmp 19, .const (.int .i64 4)], argTypes := #[89, 3] }) (some 20)) (h6 : OpAt ops 6 (.convert 84 44 (.tmp 20)) (some 21)) (h7 : OpAt ops 7 (.buildSlice 27 0 #[]) (some 22)) (h10 : OpAt ops 10 (.call { callee := .builtin .append, args := #[.tmp 22, .tmp 24], argTypes := #[27, 27] }) (some 25)) (h11 : OpAt ops 11 (.build 48 #[(0, .tmp 18), (1, .tmp 21), (2, .tmp 25)]) (some 26)) (h12 : OpAt ops 12 (.alloc 48) (some 5)) (h13 : OpAt ops 13 (.store 48 (.tmp 5) (.tmp 26)) (none))
    (p17 : ∀ t5 t17 t18 t20 t21 t22 t25 t26 v, (f t5 t17 t18 t20 t21 t22 t25 t26).put (some 17) v = f t5 v t18 t20 t21 t22 t25 t26) (p18 : ∀ t5 t17 t18 t20 t21 t22 t25 t26 v, (f t5 t17 t18 t20 t21 t22 t25 t26).put (some 18) v = f t5 t17 v t20 t21 t22 t25 t26) (p20 : ∀ t5 t17 t18 t20 t21 t22 t25 t26 v, (f t5 t17 t18 t20 t21 t22 t25 t26).put (some 20) v = f t5 t17 t18 v t21 t22 t25 t26) (p21 : ∀ t5 t17 t18 t20 t21 t22 t25 t26 v, (f t5 t17 t18 t20 t21 t22 t25 t26).put (some 21) v = f t5 t17 t18 t20 v t22 t25 t26) (p22 : ∀ t5 t17 t18 t20 t21 t22 t25 t26 v, (f t5 t17 t18 t20 t21 t22 t25 t26).put (some 22) v = f t5 t17 t18 t20 t21 v t25 t26) (p25 : ∀ t5 t17 t18 t20 t21 t22 t25 t26 v, (f t5 t17 t18 t20 t21 t22 t25 t26).put (some 25) v = f t5 t17 t18 t20 t21 t22 v t26) (p26 : ∀ t5 t17 t18 t20 t21 t22 t25 t26 v, (f t5 t17 t18 t20 t21 t22 t25 t26).put (some 26) v = f t5 t17 t18 t20 t21 t22 t25 v) (p5 : ∀ t5 t17 t18 t20 t21 t22 t25 t26 v, (f t5 t17 t18 t20 t21 t22 t25 t26).put (some 5) v = f v t17 t18 t20 t21 t22 t25 t26)
    (v17 : ∀ t5 t17 t18 t20 t21 t22 t25 t26, (f t5 t17 t18 t20 t21 t22 t25 t26).eval (.tmp 17) = t17) (v18 : ∀ t5 t17 t18 t20 t21 t22 t25 t26, (f t5 t17 t18 t20 t21 t22 t25 t26).eval (.tmp 18) = t18) (v20 : ∀ t5 t17 t18 t20 t21 t22 t25 t26, (f t5 t17 t18 t20 t21 t22 t25 t26).eval (.tmp 20) = t20) (v21 : ∀ t5 t17 t18 t20 t21 t22 t25 t26, (f t5 t17 t18 t20 t21 t22 t25 t26).eval (.tmp 21) = t21) (v22 : ∀ t5 t17 t18 t20 t21 t22 t25 t26, (f t5 t17 t18 t20 t21 t22 t25 t26).eval (.tmp 22) = t22) (v25 : ∀ t5 t17 t18 t20 t21 t22 t25 t26, (f t5 t17 t18 t20 t21 t22 t25 t26).eval (.tmp 25) = t25) (v26 : ∀ t5 t17 t18 t20 t21 t22 t25 t26, (f t5 t17 t18 t20 t21 t22 t25 t26).eval (.tmp 26) = t26) (v5 : ∀ t5 t17 t18 t20 t21 t22 t25 t26, (f t5 t17 t18 t20 t21 t22 t25 t26).eval (.tmp 5) = t5)
    (e16 : ∀ t5 t17 t18 t20 t21 t22 t25 t26, (f t5 t17 t18 t20 t21 t22 t25 t26).eval (.tmp 16) = .pointer (some ⟨b, off, none⟩)) (e19 : ∀ t5 t17 t18 t20 t21 t22 t25 t26, (f t5 t17 t18 t20 t21 t22 t25 t26).eval (.tmp 19) = .pointer (some ⟨g, 0, none⟩)) (e24 : ∀ t5 t17 t18 t20 t21 t22 t25 t26, (f t5 t17 t18 t20 t21 t22 t25 t26).eval (.tmp 24) = vs)
    (hc : ∀ u, Below w.heap.size w u → u.cell? ⟨b, off, none⟩ = some (.int .u8 (x : Int))) (hvs : ∀ u, Below w.heap.size w u → Byt u vs (l.drop 16)) (hx : x < 256) (hnw : nw < 4294967296) (hwn : wordN ((l.drop 4).take 4) = nw)
    (hl4 : ((l.drop 4).take 4).length = 4) (hl : (l.drop 16).length ≤ 10000) (hg : w.heap.size ≤ g)
    (hr : ∀ d2 d3 d5 d6 d7 d10 d11 d12, okF d2 d3 d5 d6 d7 d10 d11 d12 → Region.ready .any ops (lst4 d2 d3 d5 d6 d7 d10 d11 d12 false) = rdy4 d2 d3 d5 d6 d7 d10 d11 d12) (hr13 : Region.ready .any ops (lst4 true true true true true true true true true) = [])
    (hend : ∀ t5 t17 t18 t20 t21 t22 t25 t26 u q, t5 = .pointer (some ⟨q, 0, none⟩) → Own u w.heap.size 5 t25 (l.drop 16) → Box u q x nw t25 → w.heap.size ≤ q → q ≠ p → Box u p 0 0 (.slice none 0 0) → Below w.heap.size w u → Q .normal (f t5 t17 t18 t20 t21 t22 t25 t26) u) :
    ∀ t5 t17 t18 t20 t21 t22 t25 t26 u, RdSt w p g x nw l false false false false false false false false t5 t17 t18 t20 t21 t22 t25 t26 u → wpAny Tryd.prog .any ops Q 9 (lst4 false false false false false false false false false) (f t5 t17 t18 t20 t21 t22 t25 t26) u := by
  intro t5 t17 t18 t20 t21 t22 t25 t26 u h
  obtain ⟨i0, hi0, hz0, hz1, hz2⟩ := info_parts uinfo
  refine mach (I := fun k L a u => ∃ d2 d3 d5 d6 d7 d10 d11 d12 t5 t17 t18 t20 t21 t22 t25 t26, k = 1 + lef d2 + lef d3 + lef d5 + lef d6 + lef d7 + lef d10 + lef d11 + lef d12 ∧ L = lst4 d2 d3 d5 d6 d7 d10 d11 d12 false ∧ okF d2 d3 d5 d6 d7 d10 d11 d12 ∧ a = f t5 t17 t18 t20 t21 t22 t25 t26 ∧ RdSt w p g x nw l d2 d3 d5 d6 d7 d10 d11 d12 t5 t17 t18 t20 t21 t22 t25 t26 u) ?_ 9 _ _ u ⟨false, false, false, false, false, false, false, false, t5, t17, t18, t20, t21, t22, t25, t26, rfl, rfl, ⟨nofun, nofun, nofun, nofun⟩, rfl, h⟩
  clear h u t5 t17 t18 t20 t21 t22 t25 t26
  rintro k L a u ⟨d2, d3, d5, d6, d7, d10, d11, d12, t5, t17, t18, t20, t21, t22, t25, t26, rfl, rfl, hv, rfl, h⟩
  refine ⟨lef d2 + lef d3 + lef d5 + lef d6 + lef d7 + lef d10 + lef d11 + lef d12, _, by omega, hr _ _ _ _ _ _ _ _ hv, ?_, fun i hi => ?_⟩
  · exact rdy4_ne hv
  · unfold rdy4 at hi
    rcases List.mem_append.1 hi with hi | hi
    · cases d2 <;> simp at hi
      subst hi
      refine h2.wp (fun _ q r => st2 (e16 _ _ _ _ _ _ _ _) (hc u h.bel) q r ?_)
      rw [p17]
      refine .inl ⟨true, d3, d5, d6, d7, d10, d11, d12, t5, _, t18, t20, t21, t22, t25, t26, ?_, lst4_2, ⟨fun _ => rfl, hv.2.1, hv.2.2.1, hv.2.2.2⟩, rfl, ⟨h.bel, h.boxp, h.rd, fun _ => rfl, h.e18, h.e20, h.e21, h.r22, h.r25, h.e26, h.b5⟩⟩
      show 1 + _ + _ + _ + _ + _ + _ + _ = 1 + 0 + _ + _ + _ + _ + _ + _ + _
      omega
    rcases List.mem_append.1 hi with hi | hi
    · cases d2 <;> cases d3 <;> simp at hi
      subst hi
      refine h3.wp (fun _ q r => st3 ((v17 _ _ _ _ _ _ _ _).trans (h.e17 rfl)) hx q r ?_)
      rw [p18]
      obtain rfl : d11 = false := by cases d11; rfl; exact absurd (hv.2.2.2 rfl).1 (by simp)
      refine .inl ⟨true, true, d5, d6, d7, d10, false, d12, t5, t17, _, t20, t21, t22, t25, t26, ?_, lst4_3, ⟨fun _ => rfl, hv.2.1, hv.2.2.1, nofun⟩, rfl, ⟨h.bel, h.boxp, h.rd, h.e17, fun _ => rfl, h.e20, h.e21, h.r22, h.r25, nofun, h.b5⟩⟩
      show 0 + 1 + _ + _ + _ + _ + 1 + _ = 1 + 0 + 0 + _ + _ + _ + _ + 1 + _
      omega
    rcases List.mem_append.1 hi with hi | hi
    · cases d5 <;> simp at hi
      subst hi
      obtain rfl : d6 = false := by cases d6; rfl; exact absurd (hv.2.1 rfl) (by simp)
      obtain rfl : d10 = false := by cases d10; rfl; exact absurd (hv.2.2.1 rfl).1 (by simp)
      obtain rfl : d11 = false := by cases d11; rfl; exact absurd (hv.2.2.2 rfl).2.2 (by simp)
      refine h5.wp (fun _ q r => st5 (e19 _ _ _ _ _ _ _ _) (h.rd rfl) hl4 q r (fun u' hgr => ?_))
      rw [hwn, p20]
      obtain ⟨Ar, cr, hblk, _⟩ := h.rd rfl
      refine .inl ⟨d2, d3, true, false, d7, false, false, d12, t5, t17, t18, _, t21, t22, t25, t26, ?_, lst4_5, ⟨hv.1, nofun, nofun, nofun⟩, rfl, ⟨h.bel.grown hgr h.bel.size (fun k e => by injection e with e; exact e ▸ hg), box_grownR h.boxp hgr hblk (by decide), nofun, h.e17, h.e18, fun _ => rfl, nofun, fun e1 e2 => own_grownR (h.r22 e1 e2) hgr hblk (by decide), nofun, nofun, fun e => ?_⟩⟩
      · show _ + _ + 1 + 1 + _ + 1 + 1 + _ = 1 + _ + _ + 0 + 1 + _ + 1 + 1 + _
        omega
      · obtain ⟨q', q1, q2, q3, q4⟩ := h.b5 e
        exact ⟨q', q1, q2, q3, box_grownR q4 hgr hblk (by decide)⟩
    rcases List.mem_append.1 hi with hi | hi
    · cases d5 <;> cases d6 <;> simp at hi
      subst hi
      obtain rfl : d11 = false := by cases d11; rfl; exact absurd (hv.2.2.2 rfl).2.1 (by simp)
      refine h6.wp (fun _ q r => st6 ((v20 _ _ _ _ _ _ _ _).trans (h.e20 rfl)) hnw q r ?_)
      rw [p21]
      refine .inl ⟨d2, d3, true, true, d7, d10, false, d12, t5, t17, t18, t20, _, t22, t25, t26, ?_, lst4_6, ⟨hv.1, fun _ => rfl, hv.2.2.1, nofun⟩, rfl, ⟨h.bel, h.boxp, h.rd, h.e17, h.e18, h.e20, fun _ => rfl, h.r22, h.r25, nofun, h.b5⟩⟩
      show _ + _ + 0 + 1 + _ + _ + 1 + _ = 1 + _ + _ + 0 + 0 + _ + _ + 1 + _
      omega
    rcases List.mem_append.1 hi with hi | hi
    · cases d7 <;> simp at hi
      subst hi
      obtain rfl : d10 = false := by cases d10; rfl; exact absurd (hv.2.2.1 rfl).2 (by simp)
      obtain rfl : d11 = false := by cases d11; rfl; exact absurd (hv.2.2.2 rfl).2.2 (by simp)
      refine h7.wp (fun _ q r => st7 q r ?_)
      rw [p22]
      have hb := below_new u (.cells #[] 5)
      have h' := h.below hb
      refine .inl ⟨d2, d3, d5, d6, true, false, false, d12, t5, t17, t18, t20, t21, _, t25, t26, ?_, lst4_7, ⟨hv.1, hv.2.1, nofun, nofun⟩, rfl, ⟨h'.bel, h'.boxp, h'.rd, h'.e17, h'.e18, h'.e20, h'.e21, fun _ _ => (Own.empty u).lower h.bel.size, nofun, nofun, h'.b5⟩⟩
      show _ + _ + _ + _ + 1 + 1 + 1 + _ = 1 + _ + _ + _ + _ + 0 + 1 + 1 + _
      omega
    rcases List.mem_append.1 hi with hi | hi
    · cases d5 <;> cases d7 <;> cases d10 <;> simp at hi
      subst hi
      obtain rfl : d11 = false := by cases d11; rfl; exact absurd (hv.2.2.2 rfl).2.2 (by simp)
      have hown := h.r22 rfl rfl
      refine h10.wp (fun o q r => ?_)
      refine wp_app u (.tmp 22) (.tmp 24) _ q w.heap.size 5 i0 _ Tryd.underlying27 hi0 hz0 hz1 hz2 rfl _ [] (v22 _ _ _ _ _ _ _ _) hown _ (l.drop 16) (e24 _ _ _ _ _ _ _ _) (hvs u h.bel) (by rw [List.length_nil]; omega) h.bel.size ?_
      intro v' u' hown' hgr hat
      rw [r, p25]
      refine .inl ⟨d2, d3, true, d6, true, true, false, d12, t5, t17, t18, t20, t21, t22, _, t26, ?_, lst4_10, ⟨hv.1, hv.2.1, fun _ => ⟨rfl, rfl⟩, nofun⟩, rfl, ⟨below_own h.bel h.bel.size hown hgr, box_grownO h.boxp hown hgr, nofun, h.e17, h.e18, h.e20, h.e21, nofun, fun _ => (by rw [List.nil_append] at hown'; exact hown'), nofun, fun e => ?_⟩⟩
      · show _ + _ + 0 + _ + 0 + 1 + 1 + _ = 1 + _ + _ + 0 + _ + 0 + 0 + 1 + _
        omega
      · obtain ⟨q', q1, q2, q3, q4⟩ := h.b5 e
        exact ⟨q', q1, q2, q3, box_grownO q4 hown hgr⟩
    rcases List.mem_append.1 hi with hi | hi
    · cases d3 <;> cases d6 <;> cases d10 <;> cases d11 <;> simp at hi
      subst hi
      obtain ⟨A, n, c, e25, _, _, _⟩ := (h.r25 rfl).byt.form
      refine h11.wp (fun _ q r => st11 ((v18 _ _ _ _ _ _ _ _).trans (h.e18 rfl)) ((v21 _ _ _ _ _ _ _ _).trans (h.e21 rfl)) ((v25 _ _ _ _ _ _ _ _).trans e25) q r ?_)
      rw [p26]
      refine .inl ⟨d2, true, d5, true, d7, true, true, d12, t5, t17, t18, t20, t21, t22, t25, _, ?_, lst4_11, ⟨hv.1, hv.2.1, hv.2.2.1, fun _ => ⟨rfl, rfl, rfl⟩⟩, rfl, ⟨h.bel, h.boxp, h.rd, h.e17, h.e18, h.e20, h.e21, h.r22, h.r25, fun _ => (by rw [e25]), h.b5⟩⟩
      show _ + 0 + _ + 0 + _ + 0 + 1 + _ = 1 + _ + 0 + _ + 0 + _ + 0 + 0 + _
      omega
    rcases List.mem_append.1 hi with hi | hi
    · cases d12 <;> simp at hi
      subst hi
      refine h12.wp (fun _ q r => st12 q r ?_)
      rw [p5]
      have hb := below_new u (.cells (pageV 0 0 (.slice none 0 0)) 48)
      have h' := h.below hb
      refine .inl ⟨d2, d3, d5, d6, d7, d10, d11, true, _, t17, t18, t20, t21, t22, t25, t26, ?_, lst4_12, hv, rfl, ⟨h'.bel, h'.boxp, h'.rd, h'.e17, h'.e18, h'.e20, h'.e21, h'.r22, h'.r25, h'.e26, fun _ => ⟨u.heap.size, rfl, h.bel.size, Nat.ne_of_gt h.boxp.lt, Box.new u 0 0 _⟩⟩⟩
      show _ + _ + _ + _ + _ + _ + _ + 1 = 1 + _ + _ + _ + _ + _ + _ + _ + 0
      omega
    · cases d11 <;> cases d12 <;> simp at hi
      subst hi
      obtain ⟨rfl, rfl, rfl⟩ := hv.2.2.2 rfl
      obtain ⟨rfl, rfl⟩ := hv.2.2.1 rfl
      obtain rfl := hv.1 rfl
      obtain ⟨q', rfl, q2, q3, q4⟩ := h.b5 rfl
      obtain ⟨A, n, c, rfl, _, _, _⟩ := (h.r25 rfl).byt.form
      refine h13.wp (fun _ q r => st13 q4 (v5 _ _ _ _ _ _ _ _) ((v26 _ _ _ _ _ _ _ _).trans (h.e26 rfl)) q r ?_)
      refine .inr ?_
      rw [lst4_13]
      exact wpAny_done hr13 (hend _ _ _ _ _ _ _ _ _ q' rfl (Own.set3 q4 _ _ _ (h.r25 rfl)) (q4.set x nw _) q2 q3 (by
        unfold Box
        rw [heap_cell_other (Ne.symm q3), heap_cell_other (Ne.symm q3), heap_cell_other (Ne.symm q3)]
        exact h.boxp) (bel_set3 h.bel q2 _ _ _)) _
end Go.Proofs.YtknagdbhhfelnaaDoor

/-
  The document's pages (tallymanref05): Read, Kind by their contracts. Conditions: none.
-/
namespace Go.Proofs.YtknagdbhhfelnaaDoor
open Go.RowKit Go.Maps
set_option maxRecDepth 100000

set_option maxHeartbeats 1000000 in
theorem r5read_len (w : World) (v : Value) (l : List UInt8) (hv : Byt w v l) (h : l.length ≠ 4096) : Calls Tryd.prog 20 #[v] w (ReadN w) := by
  have HX := Lib.hid (Box.new w 0 0 (.slice none 0 0))
  have HB := Lib.hid (below_new w (.cells (pageV 0 0 (.slice none 0 0)) 48))
  obtain ⟨A, m, c, rfl, N, hnc, hcm⟩ := hv.form
  have hn : ((m : Int) != 4096) = true := by have := N.out; simp only [bne, beq_eq_false_iff_ne, Bool.not_eq_true', ne_eq]; omega
  clear hv h
  go_enter Tryd.func20, Tryd.ntmps20
  go_wp2_with fail
  unfold pageV at HX HB
  generalize w.alloc (.cells #[.int .i64 0, .int .u32 0, .slice none 0 0] 48) = w0 at *
  obtain ⟨d0, d1, d2⟩ := Box.cells HX.out
  refine bodyPost_ret (v := .tuple #[.agg (pageV 0 0 (.slice none 0 0)), .int .i64 4]) (by simp [results, Tryd.results20, go_sem, pageV, d0, d1, d2]) rfl ?_
  exact ⟨rfl, HB.out⟩
def RdPost (w : World) (l : List UInt8) (x nw : Nat) (e : Ending) (w' : World) : Prop :=
  (okB l ∧ ∃ v, e = .returned (.tuple #[.agg (pageV (x : Int) (nw : Int) v), .int .i64 0]) ∧ Own w' w.heap.size 5 v (l.drop 16) ∧ Below w.heap.size w w') ∨ (¬ okB l ∧ ReadN w e w')
set_option maxRecDepth 100000 in
set_option maxHeartbeats 4000000 in
theorem r5read_full (w : World) (v : Value) (l : List UInt8) (x nw : Nat) (hx3 : (l.getD 3 0).toNat = x) (hnw3 : numW l = nw) (hv : Byt w v l) (hl : l.length = 4096) : Calls Tryd.prog 20 #[v] w (RdPost w l x nw) := by
  have HOKI : Hid (okB l ↔ l.length = 4096 ∧ (1 ≤ (l.getD 3 0).toNat ∧ (l.getD 3 0).toNat ≤ 7) ∧ pageB (l.getD 3 0).toNat (numW l) (l.drop 16) = l) := okB_iff l
  have HNW := Lib.hid (numW_lt l)
  have HX256 : Hid ((l.getD 3 0).toNat < 256) := UInt8.toNat_lt _
  have HWN : Hid (wordN ((l.drop 4).take 4) = numW l) := rfl
  have HX := Lib.hid (Box.new w 0 0 (.slice none 0 0))
  have HB := Lib.hid (below_new w (.cells (pageV 0 0 (.slice none 0 0)) 48))
  obtain ⟨A, m, c, rfl, N, hnc, hcm⟩ := hv.form
  obtain rfl : m = 4096 := N.out.trans hl
  obtain ⟨A1, n1, c1, r1, b1, N1, _, _⟩ := hv.midrun 4 8 (by omega) (by omega)
  have r1' : ∀ W, (Instr.slice 27 (.slice A 4096 c) (some (.int .i64 4)) (some (.int .i64 8)) none).run Tryd.prog W = .ok (.slice A1 n1 c1) W := r1
  obtain ⟨A2, n2, c2, r2, b2, N2, _, _⟩ := hv.cutrun 27 elemByte sizeByte 16 (by omega) .i64
  have r2' : ∀ W, (Instr.slice 27 (.slice A 4096 c) (some (.int .i64 16)) none none).run Tryd.prog W = .ok (.slice A2 n2 c2) W := r2
  obtain ⟨b, off, rfl, hb, hc⟩ := hv.at (k := 3) (by omega)
  have hcell := hc 3 (by omega)
  have hk3 : l[3]'(by omega) = l.getD 3 0 := (getDb (by omega)).symm
  rw [hk3] at hcell
  rw [hx3] at HOKI HX256 hcell
  rw [hnw3] at HOKI HNW HWN
  have HCL := Lib.hid hcell
  have HBL := Lib.hid hb
  have HV := Lib.hid hv
  have B1 : Hid (Byt w (.slice A1 n1 c1) ((l.drop 4).take 4)) := b1
  have B2 := Lib.hid b2
  have HL4 : Hid (((l.drop 4).take 4).length = 4) := by rw [Hid, List.length_take, List.length_drop]; omega
  have HLL := Lib.hid hl
  clear hv r1 r2 b1 b2 hc hcell hb hk3 N hx3 hnw3
  go_enter Tryd.func20, Tryd.ntmps20
  go_wp2_with fail
  have HW0 : Hid (w.alloc (.cells (pageV 0 0 (.slice none 0 0)) 48) = w.alloc (.cells (pageV 0 0 (.slice none 0 0)) 48)) := rfl
  refine (r1new_any _ _ _ (B1.out.alloc _) (by have := HL4.out; omega)).mono ?_
  rintro e w1 ⟨g, rfl, hg, hr1, hb1⟩
  have HX1 := Lib.hid (HX.out.below hb1)
  have HB1 := Lib.hid (HB.out.trans (hb1.mono HB.out.size))
  have HR1 := Lib.hid hr1
  have HG : Hid (w.heap.size ≤ g) := by have := HB.out.size; rw [Hid]; simp at hg; omega
  clear hg hr1 hb1
  go_wp2_with fail
  refine wp_region_any (by kernel_rfl) ?_
  refine take_plain 0 15 ?_ rfl rfl (by kernel_rfl) (by kernel_rfl) (by kernel_rfl) (fun _ _ _ h => h) rfl ?_ ?_
  rotate_left
  · intro u; go_simp <;> rfl
  simp only [Act.put, List.setIfInBounds_toArray, List.set_cons_zero, List.set_cons_succ]
  refine take_plain 1 16 ?_ rfl rfl (by kernel_rfl) (by kernel_rfl) (by kernel_rfl) (fun _ _ _ h => h) rfl ?_ ?_
  rotate_left
  · intro u; go_simp <;> rfl
  simp only [Act.put, List.setIfInBounds_toArray, List.set_cons_zero, List.set_cons_succ]
  refine take_plain 4 19 ?_ rfl rfl (by kernel_rfl) (by kernel_rfl) (by kernel_rfl) (fun _ _ _ h => h) rfl ?_ ?_
  rotate_left
  · intro u; go_simp <;> rfl
  simp only [Act.put, List.setIfInBounds_toArray, List.set_cons_zero, List.set_cons_succ]
  refine take_plain 8 23 ?_ rfl rfl (by kernel_rfl) (by kernel_rfl) (by kernel_rfl) (fun _ _ _ h => h) rfl ?_ ?_
  rotate_left
  · intro u; go_simp <;> rfl
  simp only [Act.put, List.setIfInBounds_toArray, List.set_cons_zero, List.set_cons_succ]
  refine take_plain 9 24 ?_ rfl rfl (by kernel_rfl) (by kernel_rfl) (by kernel_rfl) (fun _ _ _ h => h) rfl ?_ ?_
  rotate_left
  · intro u; go_simp <;> rfl
  simp only [Act.put, List.setIfInBounds_toArray, List.set_cons_zero, List.set_cons_succ]
  refine any_lst (L' := lst4 false false false false false false false false false) (by kernel_rfl) ?_
  refine reg4 (w := w) (p := w.heap.size) (g := g) (x := x) (nw := nw) (b := b) (off := off + 3) (l := l) (vs := .slice A2 n2 c2)
    (f := fun t5 t17 t18 t20 t21 t22 t25 t26 => ⟨#[.slice (some ⟨b, off, none⟩) 4096 c, undef, .pointer (some ⟨w.heap.size, 0, none⟩), .int .i64 0, .pointer (some ⟨g, 0, none⟩), t5, undef, undef, .slice (some ⟨b, off, none⟩) 4096 c, .int .i64 4096, .bool false, undef, .slice (some ⟨b, off, none⟩) 4096 c, .slice A1 n1 c1, .pointer (some ⟨g, 0, none⟩), .slice (some ⟨b, off, none⟩) 4096 c, .pointer (some ⟨b, off + 3, none⟩), t17, t18, .pointer (some ⟨g, 0, none⟩), t20, t21, t22, .slice (some ⟨b, off, none⟩) 4096 c, .slice A2 n2 c2, t25, t26, undef, undef, undef, undef, undef, undef, undef, undef, undef, undef, undef, undef, undef, undef, undef, undef], []⟩)
    ⟨_, rfl, rfl, rfl, rfl⟩ ⟨_, rfl, rfl, rfl, rfl⟩ ⟨_, rfl, rfl, rfl, rfl⟩ ⟨_, rfl, rfl, rfl, rfl⟩ ⟨_, rfl, rfl, rfl, rfl⟩ ⟨_, rfl, rfl, rfl, rfl⟩ ⟨_, rfl, rfl, rfl, rfl⟩ ⟨_, rfl, rfl, rfl, rfl⟩ ⟨_, rfl, rfl, rfl, rfl⟩
    (fun _ _ _ _ _ _ _ _ _ => rfl) (fun _ _ _ _ _ _ _ _ _ => rfl) (fun _ _ _ _ _ _ _ _ _ => rfl) (fun _ _ _ _ _ _ _ _ _ => rfl) (fun _ _ _ _ _ _ _ _ _ => rfl) (fun _ _ _ _ _ _ _ _ _ => rfl) (fun _ _ _ _ _ _ _ _ _ => rfl) (fun _ _ _ _ _ _ _ _ _ => rfl)
    (fun _ _ _ _ _ _ _ _ => rfl) (fun _ _ _ _ _ _ _ _ => rfl) (fun _ _ _ _ _ _ _ _ => rfl) (fun _ _ _ _ _ _ _ _ => rfl) (fun _ _ _ _ _ _ _ _ => rfl) (fun _ _ _ _ _ _ _ _ => rfl) (fun _ _ _ _ _ _ _ _ => rfl) (fun _ _ _ _ _ _ _ _ => rfl)
    (fun _ _ _ _ _ _ _ _ => rfl) (fun _ _ _ _ _ _ _ _ => rfl) (fun _ _ _ _ _ _ _ _ => rfl)
    (fun u h => (h.cell (p := ⟨b, off + 3, none⟩) HBL.out).trans HCL.out) (fun u h => B2.out.below h) HX256.out HNW.out HWN.out HL4.out (by rw [List.length_drop]; have := HLL.out; omega) HG.out ?_ (by kernel_rfl) ?_ _ _ _ _ _ _ _ _ _
    ⟨HB1.out.drew, HX1.out, fun _ => HR1.out.below (Below.refl _ _).drew, nofun, nofun, nofun, nofun, nofun, nofun, nofun, nofun⟩
  · rintro d2 d3 d5 d6 d7 d10 d11 d12 ⟨v1, v2, v3, v4⟩
    cases d11
    · cases d10
      · cases d6
        · cases d3
          · clear v1 v2 v3 v4
            cases d2 <;> cases d5 <;> cases d7 <;> cases d12 <;> kernel_rfl
          · obtain rfl := v1 rfl
            clear v1 v2 v3 v4
            cases d5 <;> cases d7 <;> cases d12 <;> kernel_rfl
        · obtain rfl := v2 rfl
          cases d3
          · clear v1 v2 v3 v4
            cases d2 <;> cases d7 <;> cases d12 <;> kernel_rfl
          · obtain rfl := v1 rfl
            clear v1 v2 v3 v4
            cases d7 <;> cases d12 <;> kernel_rfl
      · obtain ⟨rfl, rfl⟩ := v3 rfl
        cases d3
        · clear v1 v2 v3 v4
          cases d2 <;> cases d6 <;> cases d12 <;> kernel_rfl
        · obtain rfl := v1 rfl
          clear v1 v2 v3 v4
          cases d6 <;> cases d12 <;> kernel_rfl
    · obtain ⟨rfl, rfl, rfl⟩ := v4 rfl
      obtain ⟨rfl, rfl⟩ := v3 rfl
      obtain rfl := v1 rfl
      clear v1 v2 v3 v4
      cases d12 <;> kernel_rfl
  · intro t5 t17 t18 t20 t21 t22 t25 t26 u q e5 hown hbox hq1 hq2 hboxp hbel
    subst e5
    have HOW := Lib.hid hown
    have HBX := Lib.hid hbox
    have HBP := Lib.hid hboxp
    have HBE := Lib.hid hbel
    have HQ2 := Lib.hid hq2
    obtain ⟨A3, n3, c3, rfl, N3, hnc3, hcm3⟩ := hown.byt.form
    obtain ⟨d0, d1, d2⟩ := hbox.cells
    have HL16 : Hid ((l.drop 16).length ≤ 4080) := by rw [Hid, List.length_drop]; have := HLL.out; omega
    clear hown hbox hboxp hbel hq1 hq2
    go_wp2_with fail
    clear d0 d1 d2
    by_cases hk : 1 ≤ x ∧ x ≤ 7
    · refine (r5bytes_ok u x nw _ _ HOW.out.byt hk.1 hk.2 HL16.out HNW.out).mono ?_
      rintro e w6 ⟨v6, rfl, hown6, hb6⟩
      have HB6 := Lib.hid (HBE.out.trans (hb6.mono HBE.out.size))
      have HX6 := Lib.hid (HBX.out.below hb6)
      have HP6 := Lib.hid (HBP.out.below hb6)
      have HO6 := Lib.hid (Own.keep HOW.out hb6)
      have T1 := text_of hown6.byt
      have T2 := text_of (HV.out.below HB6.out)
      have E := bytes_eq (pageB x nw (l.drop 16)) l
      obtain ⟨A6, n6, c6, rfl, N6, hnc6, hcm6⟩ := hown6.byt.form
      have HOK : Hid (okB l ↔ pageB x nw (l.drop 16) = l) := ⟨fun h => (HOKI.out.1 h).2.2, fun h => HOKI.out.2 ⟨HLL.out, hk, h⟩⟩
      generalize pageB x nw (l.drop 16) = lp at *
      obtain ⟨d0, d1, d2⟩ := HX6.out.cells
      obtain ⟨p0, p1, p2⟩ := HP6.out.cells
      have f0 := HP6.out.frozen 0
      have f1 := HP6.out.frozen 1
      have f2 := HP6.out.frozen 2
      clear hown6 hb6
      by_cases hE : lp = l
      · have hok : okB l := HOK.out.2 hE
        rw [decide_eq_true hE] at E
        clear hE
        generalize (⟨lp.toArray⟩ : ByteArray) = sp at *
        generalize (⟨l.toArray⟩ : ByteArray) = sl at *
        go_wp2_with fail
        have HX9 := Lib.hid (HP6.out.set x nw (.slice A3 n3 c3))
        have HB9 := Lib.hid (bel_set3 HB6.out (Nat.le_refl _) (.int .i64 x) (.int .u32 nw) (.slice A3 n3 c3))
        have HO9 := Lib.hid (Own.set3 HP6.out (.int .i64 x) (.int .u32 nw) (.slice A3 n3 c3) HO6.out)
        generalize ((w6.setCell ⟨w.heap.size, 0, none⟩ (.int .i64 x)).setCell ⟨w.heap.size, 1, none⟩ (.int .u32 nw)).setCell ⟨w.heap.size, 2, none⟩ (.slice A3 n3 c3) = w9 at *
        clear d0 d1 d2
        obtain ⟨d0, d1, d2⟩ := HX9.out.cells
        refine bodyPost_ret (v := .tuple #[.agg (pageV x nw (.slice A3 n3 c3)), .int .i64 0]) (by simp [results, Tryd.results20, go_sem, pageV, d0, d1, d2]) rfl ?_
        exact .inl ⟨hok, _, rfl, HO9.out, HB9.out⟩
      · have hok : ¬ okB l := fun h => hE (HOK.out.1 h)
        rw [decide_eq_false hE] at E
        clear hE
        generalize (⟨lp.toArray⟩ : ByteArray) = sp at *
        generalize (⟨l.toArray⟩ : ByteArray) = sl at *
        go_wp2_with fail
        have HX9 := Lib.hid (HP6.out.set 0 0 (.slice none 0 0))
        have HB9 := Lib.hid (bel_set3 HB6.out (Nat.le_refl _) (.int .i64 0) (.int .u32 0) (.slice none 0 0))
        generalize ((w6.setCell ⟨w.heap.size, 0, none⟩ (.int .i64 0)).setCell ⟨w.heap.size, 1, none⟩ (.int .u32 0)).setCell ⟨w.heap.size, 2, none⟩ (.slice none 0 0) = w9 at *
        clear d0 d1 d2
        obtain ⟨d0, d1, d2⟩ := HX9.out.cells
        refine bodyPost_ret (v := .tuple #[.agg (pageV 0 0 (.slice none 0 0)), .int .i64 4]) (by simp [results, Tryd.results20, go_sem, pageV, d0, d1, d2]) rfl ?_
        exact .inr ⟨hok, rfl, HB9.out⟩
    · have hok : ¬ okB l := fun h => hk (HOKI.out.1 h).2.1
      refine (r5bytes_bad u x nw _ _ HOW.out.byt (fun h => hk ⟨by omega, by omega⟩)).mono ?_
      rintro e w6 ⟨rfl, hb6⟩
      have HB6 := Lib.hid (HBE.out.trans (hb6.mono HBE.out.size))
      have HP6 := Lib.hid (HBP.out.below hb6)
      obtain ⟨p0, p1, p2⟩ := HP6.out.cells
      have f0 := HP6.out.frozen 0
      have f1 := HP6.out.frozen 1
      have f2 := HP6.out.frozen 2
      clear hb6
      go_wp2_with fail
      have HX9 := Lib.hid (HP6.out.set 0 0 (.slice none 0 0))
      have HB9 := Lib.hid (bel_set3 HB6.out (Nat.le_refl _) (.int .i64 0) (.int .u32 0) (.slice none 0 0))
      generalize ((w6.setCell ⟨w.heap.size, 0, none⟩ (.int .i64 0)).setCell ⟨w.heap.size, 1, none⟩ (.int .u32 0)).setCell ⟨w.heap.size, 2, none⟩ (.slice none 0 0) = w9 at *
      obtain ⟨d0, d1, d2⟩ := HX9.out.cells
      refine bodyPost_ret (v := .tuple #[.agg (pageV 0 0 (.slice none 0 0)), .int .i64 4]) (by simp [results, Tryd.results20, go_sem, pageV, d0, d1, d2]) rfl ?_
      exact .inr ⟨hok, rfl, HB9.out⟩
theorem r5read_ok (w : World) (v : Value) (l : List UInt8) (hv : Byt w v l) (h : okB l) : Calls Tryd.prog 20 #[v] w (ReadE w l) := by
  refine (r5read_full w v l _ _ rfl rfl hv h.1.1).mono ?_
  rintro e w' (⟨_, h'⟩ | ⟨h', _⟩)
  · exact h'
  · exact absurd h h'
theorem r5read_bad (w : World) (v : Value) (l : List UInt8) (hv : Byt w v l) (h : ¬ okB l) : Calls Tryd.prog 20 #[v] w (ReadN w) := by
  by_cases hl : l.length = 4096
  · refine (r5read_full w v l _ _ rfl rfl hv hl).mono ?_
    rintro e w' (⟨h', _⟩ | ⟨_, h'⟩)
    · exact absurd h' h
    · exact h'
  · exact r5read_len w v l hv hl
end Go.Proofs.YtknagdbhhfelnaaDoor

