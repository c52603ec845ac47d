/-
  tallymanref10's tight, Clear, Set by their contracts. Conditions: lists of at most 65536 ints of 64 bits; a logical page up to 3000.
-/
import Derived.Test.YthakkaffjnkhgaaTbM
namespace Go.Proofs.Ythakkaffjnkhgaa
open Go.RowKit Go.Maps
set_option maxRecDepth 100000
set_option linter.unusedVariables false
set_option linter.unusedSimpArgs false

/-- What the document's tight leaves: a table of a part of what it was handed. -/
def TgtOut (w : World) (v : Value) (zs : List Int) (e : Ending) (w' : World) : Prop := ∃ x, e = .returned (.agg #[x]) ∧ Rowz w' x (intC (trimL zs)) ∧ (∀ k, x.ownBlock = some k → v.ownBlock = some k) ∧ (∃ A c, x = .slice A (trimL zs).length c) ∧ Below w.heap.size w w'
theorem slice_h1 (b off k c q : Nat) (hq : q ≤ k) (hk : k ≤ c) (W : World) : (Instr.slice 22 (.slice (some ⟨b, off, none⟩) k c) none (some (.int .i64 (q : Int))) none).run Try.prog W = .ok (.slice (some ⟨b, off, none⟩) q c) W := by
  rw [run_slice_h W 22 _ k c elemInt1 .i64 (q : Int) (by omega) (by omega), sizeInt1]
  simp [Result.andThen, sliced, plainAdd]
set_option maxHeartbeats 1000000 in
theorem rtight_any (w : World) (v : Value) (zs : List Int) (hv : Rowz w v (intC zs)) (hlen : zs.length ≤ 1073741824) :
    Calls Try.prog 40 #[v] w (TgtOut w v zs) := by
  obtain ⟨A, n, c, rfl, N, hnc, hcm⟩ := hv.form
  obtain ⟨w0, hw0⟩ : ∃ w0, w.alloc (.cells #[.slice none 0 0] 24) = w0 := ⟨_, rfl⟩
  have HX0 : Hid (TbBox w0 w.heap.size (.slice none 0 0)) := hw0 ▸ SBox.new w 24 [.slice none 0 0]
  have HB0 : Hid (Below w.heap.size w w0) := hw0 ▸ below_new w _
  have HW0 := Lib.hid hw0
  have HV := Lib.hid (hv.below HB0.out)
  have HVW := Lib.hid hv
  have HL := Lib.hid hlen
  have hn : n = zs.length := hv.lenZ
  subst hn
  clear hv hlen N hw0
  go_enter Try.func40, Try.ntmps40
  go_wp2_with fail
  rw [HW0.out]
  go_loop [0] (fun s => TrmRel A zs s) (fun s => lenZv s)
  case atStart => exact ⟨_, _, rfl, Nat.le_refl _, hnc, hcm, fun j hj => atZ_ge hj⟩
  case round =>
    obtain ⟨k, c1, rfl, hk, hkc, hcm1, hall⟩ := hrel
    have HA := Lib.hid hall
    have HK := Lib.hid hk
    have hOut : Hid (∀ W, Below w.heap.size w W → (0 < k → atZ zs (k - 1) ≠ 0) → TgtOut w (.slice A zs.length c) zs (.returned (.agg #[.slice A k c1])) W) := by
      intro W hW h2
      have e := trim_at HK.out HA.out h2
      have hl : (trimL zs).length = k := by rw [e, List.length_take]; have := HK.out; omega
      exact ⟨_, rfl, by rw [e]; exact (HVW.out.below hW).part HK.out c1 hkc (by unfold maxLen; omega), fun k hk => (own_slice A _ _ _ _) ▸ hk, ⟨A, c1, by rw [hl]⟩, hW⟩
    clear hall
    by_cases h0 : 0 < k
    · obtain ⟨q, hq⟩ : ∃ q, k = q + 1 := ⟨k - 1, by omega⟩
      have HQ := Lib.hid hq
      have hqk : (0 : Int) < (k : Int) := by omega
      obtain ⟨b, off, rfl, hb, hc⟩ := HV.out.atZ (k := q) (by omega)
      have hsl : ∀ W, (Instr.slice 22 (.slice (some ⟨b, off, none⟩) k c1) none (some (.int .i64 ((k : Int) - 1))) none).run Try.prog W = .ok (.slice (some ⟨b, off, none⟩) q c1) W := fun W => by
        rw [show (k : Int) - 1 = (q : Int) by omega]
        exact slice_h1 b off k c1 q (by omega) hkc W
      rw [show off + q = off + (k - 1) by omega] at hc
      generalize hy : atZ zs q = y at *
      have HY := Lib.hid hy
      clear hy hk h0 hq
      by_cases e : y = 0
      · subst e
        go_wp2_with fail
        go_roundw
        case rel => exact ⟨q, c1, rfl, by have := HK.out; have := HQ.out; omega, by have := HQ.out; omega, hcm1, fun j hj => by
          by_cases e : j = q
          · subst e; exact HY.out
          · exact HA.out j (by have := HQ.out; omega)⟩
        case measure => have := HQ.out; simp [lenZv]; omega
      · have he : (y == 0) = false := by simpa using e
        have HE := Lib.hid e
        clear e
        go_wp2_with (refine wpList_storeS HX0.out tbInfo rfl _ _ rfl rfl (ds := [.slice (some ⟨b, off, none⟩) k c1]) rfl rfl (one_tb _ _ _) ?_; intro w2 hR2 hg2 hz2)
        refine ret_s1 hR2 Try.underlying24 tbInfo rfl rfl rfl ?_
        exact hOut.out w2 (HB0.out.grown hg2 HB0.out.size (fun k e => by cases e; omega)) (fun _ => by rw [HQ.out, Nat.add_sub_cancel, HY.out]; exact HE.out)
    · obtain rfl : k = 0 := by omega
      go_wp2_with (refine wpList_storeS HX0.out tbInfo rfl _ _ rfl rfl (ds := [.slice A 0 c1]) rfl rfl (one_tb _ _ _) ?_; intro w2 hR2 hg2 hz2)
      refine ret_s1 hR2 Try.underlying24 tbInfo rfl rfl rfl ?_
      exact hOut.out w2 (HB0.out.grown hg2 HB0.out.size (fun k e => by cases e; omega)) (fun h => absurd h (Nat.lt_irrefl _))
theorem RowO.mk' {w w' : World} {B : Nat} {v : Value} {zs : List Int} (h : Rowz w' v (intC zs)) (ho : ∀ k, v.ownBlock = some k → B ≤ k ∧ k < w.heap.size) (hs : w.heap.size ≤ w'.heap.size) : RowO w' B v zs := ⟨h, fun k hk => ⟨(ho k hk).1, Nat.lt_of_lt_of_le (ho k hk).2 hs⟩⟩
/-! Clear. -/
set_option maxHeartbeats 4000000 in
set_option maxRecDepth 100000 in
theorem rclear_any (w : World) (v : Value) (zs : List Int) (n : Int) (h : TbIn w v zs) :
    Calls Try.prog 19 #[.agg #[v], .int .i64 n] w (TbOut w (clearT zs n)) := by
  have H := Lib.hid h
  obtain ⟨A, m, c, rfl, N, hnc, hcm⟩ := h.row.form
  obtain ⟨w0, hw0, hb0, hz, hA, hR⟩ := tb_boxes w (.slice A m c)
  have HX0 := Lib.hid hA
  have HR0 := Lib.hid hR
  have HB0 := Lib.hid hb0
  have HW0 := Lib.hid hw0
  have HZ := Lib.hid hz
  have hn : m = zs.length := h.row.lenZ
  have HN := Lib.hid hn
  have HCK := Lib.hid (rcheck_any w0 _ zs (H.out.below hb0))
  unfold chkT at HCK
  have HGE := Lib.hid fun w1 (hb : Below w.heap.size w w1) => rget_any w1 _ zs n (H.out.below hb)
  by_cases hok : tbOk zs
  · rw [if_pos hok] at HCK
    by_cases h0 : getT zs n = 0
    · have hf : clearT zs n = ([], 6) := by
        unfold clearT
        rw [if_neg (fun h => h hok), if_pos h0]
      have hgo : getOk zs n = false := by unfold getOk; rw [h0]; simp
      rw [h0, hgo] at HGE
      rw [hf]
      clear h hn hw0 hok hf hb0 hz hA hR h0 hgo
      go_enter Try.func19, Try.ntmps19
      go_wp2_with fail
      rw [HW0.out]
      have c1 := HX0.out.c0
      go_wp2_with fail
      refine HCK.out.mono ?_
      rintro e w1 ⟨rfl, hb1⟩
      have HX1 : Hid (TbBox w1 w.heap.size (.slice A m c)) := HX0.out.below hb1
      have HR1 : Hid (TbBox w1 (w.heap.size + 1) (.slice none 0 0)) := HR0.out.below hb1
      have HB1 : Hid (Below w.heap.size w w1) := HB0.out.trans (hb1.mono HB0.out.size)
      have HL1 : Hid (w.heap.size + 2 ≤ w1.heap.size) := HZ.out ▸ hb1.size
      clear hb1 c1
      have c1 := HX1.out.c0
      go_wp2_with fail
      refine (HGE.out w1 HB1.out).mono ?_
      rintro e w2 ⟨rfl, hb2⟩
      have HX2 : Hid (TbBox w2 w.heap.size (.slice A m c)) := HX1.out.below hb2
      have HR2 : Hid (TbBox w2 (w.heap.size + 1) (.slice none 0 0)) := HR1.out.below hb2
      have HB2 : Hid (Below w.heap.size w w2) := HB1.out.trans (hb2.mono HB1.out.size)
      have HL2 : Hid (w.heap.size + 2 ≤ w2.heap.size) := Nat.le_trans HL1.out hb2.size
      clear hb2 c1
      have c1 := HX2.out.c0
      go_wp2_with (refine wpList_storeS HR2.out tbInfo rfl _ _ rfl rfl (ds := [.slice none 0 0]) rfl rfl (one_tb none 0 0) ?_; intro w9 hR9 hg9 hz9)
      refine ret_s2 hR9 Try.underlying24 tbInfo rfl rfl rfl _ rfl ?_
      exact ⟨_, rfl, RowO.nil _ _, HB2.out.grown hg9 HB2.out.size (fun k e => by cases e; omega)⟩
    · have hf : clearT zs n = (trimL (zs.set n.toNat 0), 0) := by
        unfold clearT
        rw [if_neg (fun h => h hok), if_neg h0]
      have hgo : getOk zs n = true := decide_eq_true h0
      rw [hgo] at HGE
      rw [hf]
      have hnn : 0 ≤ n := Classical.byContradiction fun hn0 => h0 (if_neg (fun h => hn0 h.2))
      have hnl : n.toNat < zs.length := by
        refine atZ_in (fun e => h0 ?_)
        unfold getT
        rw [if_pos ⟨hok, hnn⟩]
        exact e
      have hnM : n < (m : Int) := by omega
      have HNL : Hid (n.toNat < m) := by rw [Hid]; omega
      have HLZ : Hid (zs.length ≤ 65536) := h.len
      have HLZ4 : Hid ((zs.set n.toNat 0).length ≤ 65536) := by rw [List.length_set]; exact h.len
      obtain ⟨i0, hi0, hz0, hz1, hz2⟩ := info_parts iinfo
      generalize getT zs n = gg at *
      clear h hn hw0 hok hf hb0 hz hA hR h0 hgo hnl
      go_enter Try.func19, Try.ntmps19
      go_wp2_with fail
      rw [HW0.out]
      have c1 := HX0.out.c0
      go_wp2_with fail
      refine HCK.out.mono ?_
      rintro e w1 ⟨rfl, hb1⟩
      have HX1 : Hid (TbBox w1 w.heap.size (.slice A m c)) := HX0.out.below hb1
      have HR1 : Hid (TbBox w1 (w.heap.size + 1) (.slice none 0 0)) := HR0.out.below hb1
      have HB1 : Hid (Below w.heap.size w w1) := HB0.out.trans (hb1.mono HB0.out.size)
      have HL1 : Hid (w.heap.size + 2 ≤ w1.heap.size) := HZ.out ▸ hb1.size
      clear hb1 c1
      have c1 := HX1.out.c0
      go_wp2_with fail
      refine (HGE.out w1 HB1.out).mono ?_
      rintro e w2 ⟨rfl, hb2⟩
      have HX2 : Hid (TbBox w2 w.heap.size (.slice A m c)) := HX1.out.below hb2
      have HR2 : Hid (TbBox w2 (w.heap.size + 1) (.slice none 0 0)) := HR1.out.below hb2
      have HB2 : Hid (Below w.heap.size w w2) := HB1.out.trans (hb2.mono HB1.out.size)
      have HL2 : Hid (w.heap.size + 2 ≤ w2.heap.size) := Nat.le_trans HL1.out hb2.size
      clear hb2 c1
      have c1 := HX2.out.c0
      have hlt2 := HX2.out.lt
      go_wp2_with (first
        | (at_builtin; refine wpList_appV rfl (.tmp 22) (.tmp 24) _ rfl w2.heap.size 3 8 i0 _ Try.underlying22 hi0 hz0 hz1 hz2 rfl _ [] rfl (OwnV.empty w2 3) _ (intC zs) rfl (H.out.row.below (HB2.out.trans ((below_new w2 _).mono HB2.out.size))) (intC_one zs) (by have := HLZ.out; rw [intC_len]; simp only [List.length_nil]; omega) (by have := HLZ.out; rw [intC_len]; simp only [List.length_nil, maxLen]; omega) (by simp) ?_; intro v3 w3 hown3 hg3 hat3
           have HV3 : Hid (OwnV w3 w2.heap.size 3 v3 (intC zs)) := by rw [List.nil_append] at hown3; exact hown3
           have hb3 : Below w2.heap.size w2 w3 := OwnV.below (OwnV.empty w2 3) (below_new w2 _) (by simp) hg3
           have HR3 : Hid (TbBox w3 (w.heap.size + 1) (.slice none 0 0)) := HR2.out.below hb3
           have HB3 : Hid (Below w.heap.size w w3) := HB2.out.trans (hb3.mono HB2.out.size)
           obtain ⟨g, c3, rfl, hBg, hgl, hc3, hc3', _, _⟩ := OwnV.form HV3.out (by rw [intC_len]; have := HNL.out; have := HN.out; omega)
           have hml : (intC zs).length = m := by rw [intC_len]; exact HN.out.symm
           rw [hml] at HV3 hc3 ⊢
           have HML := Lib.hid hml
           have HBG : Hid (w2.heap.size ≤ g) := hBg
           clear hown3 hg3 hat3 hb3 c1 hml hBg hgl hlt2)
        | (refine wpList_put1 3 rfl (.tmp 28) (.const (.int .i64 0)) rfl n.toNat (.int .i64 0) rfl rfl rfl intInfo1 _ (own_at HV3.out HML.out HNL.out) (own_thaw HV3.out n.toNat) ?_; intro w4 hw4
           have hg4 : w3.grownBy w4 (some g) := by rw [hw4]; exact grown_set w3 g n.toNat _
           have HO4 : Hid (OwnV w4 w2.heap.size 3 (.slice (some ⟨g, 0, none⟩) m c3) (intC (zs.set n.toNat 0))) := by rw [hw4, intC_set]; exact OwnV.set HV3.out HML.out n.toNat (.int .i64 0)
           have HR4 : Hid (TbBox w4 (w.heap.size + 1) (.slice none 0 0)) := HR3.out.grown hg4 (by have := HL2.out; have := HBG.out; omega)
           have HB4 : Hid (Below w.heap.size w w4) := HB3.out.grown hg4 HB3.out.size (fun k e => by cases e; have := HL2.out; have := HBG.out; omega)
           clear hw4 hg4))
      refine (rtight_any _ _ (zs.set n.toNat 0) HO4.out.rowz (by have := HLZ4.out; omega)).mono ?_
      rintro e w5 ⟨x5, rfl, hx5, hown5, ⟨A5, c5, rfl⟩, hb5⟩
      have HX5 : Hid (RowO w5 w2.heap.size (.slice A5 (trimL (zs.set n.toNat 0)).length c5) (trimL (zs.set n.toNat 0))) := RowO.mk' hx5 (fun k hk => HO4.out.rowO.2 k (hown5 k hk)) hb5.size
      have HR5 : Hid (TbBox w5 (w.heap.size + 1) (.slice none 0 0)) := HR4.out.below hb5
      have HB5 : Hid (Below w.heap.size w w5) := HB4.out.trans (hb5.mono HB4.out.size)
      generalize (trimL (zs.set n.toNat 0)).length = q5 at *
      clear hx5 hown5 hb5
      go_wp2_with (refine wpList_storeS HR5.out tbInfo rfl _ _ rfl rfl (ds := [.slice A5 q5 c5]) rfl rfl (one_tb _ _ _) ?_; intro w6 hR6 hg6 hz6)
      refine ret_s2 hR6 Try.underlying24 tbInfo rfl rfl rfl _ rfl ?_
      exact ⟨_, rfl, (HX5.out.grown hg6 (by have := HL2.out; omega)).lower HB2.out.size, HB5.out.grown hg6 HB5.out.size (fun k e => by cases e; omega)⟩
  · rw [if_neg hok] at HCK
    have hf : clearT zs n = ([], 2) := if_pos hok
    rw [hf]
    clear h hn hw0 hok hf hb0 hz hA hR
    go_enter Try.func19, Try.ntmps19
    go_wp2_with fail
    rw [HW0.out]
    have c1 := HX0.out.c0
    go_wp2_with fail
    refine HCK.out.mono ?_
    rintro e w1 ⟨rfl, hb1⟩
    have HX1 : Hid (TbBox w1 w.heap.size (.slice A m c)) := HX0.out.below hb1
    have HR1 : Hid (TbBox w1 (w.heap.size + 1) (.slice none 0 0)) := HR0.out.below hb1
    have HB1 : Hid (Below w.heap.size w w1) := HB0.out.trans (hb1.mono HB0.out.size)
    have HL1 : Hid (w.heap.size + 2 ≤ w1.heap.size) := HZ.out ▸ hb1.size
    clear hb1 c1
    have c1 := HX1.out.c0
    go_wp2_with (refine wpList_storeS HR1.out tbInfo rfl _ _ rfl rfl (ds := [.slice none 0 0]) rfl rfl (one_tb none 0 0) ?_; intro w9 hR9 hg9 hz9)
    refine ret_s2 hR9 Try.underlying24 tbInfo rfl rfl rfl _ rfl ?_
    exact ⟨_, rfl, RowO.nil _ _, HB1.out.grown hg9 HB1.out.size (fun k e => by cases e; omega)⟩

/-! Set. -/
def StRel (w : World) (B : Nat) (zs : List Int) (n : Int) (v : Value) (wr : World) : Prop :=
  ∃ (q : Nat) (A : Option Addr) (c : Nat), v = .slice A q c ∧ zs.length ≤ q ∧ q ≤ max zs.length (n.toNat + 1) ∧ OwnV wr B 3 v (intC (zs ++ List.replicate (q - zs.length) 0)) ∧ TbBox wr (w.heap.size + 1) (.slice none 0 0) ∧ Below w.heap.size w wr ∧ B ≤ wr.heap.size
set_option maxHeartbeats 8000000 in
set_option maxRecDepth 100000 in
theorem rset_any (w : World) (v : Value) (zs : List Int) (n p : Int) (h : TbIn w v zs) (hn3 : n ≤ 3000) :
    Calls Try.prog 17 #[.agg #[v], .int .i64 n, .int .i64 p] w (TbOut w (setT zs n p)) := by
  have H := Lib.hid h
  obtain ⟨A, m, c, rfl, N, hnc, hcm⟩ := h.row.form
  obtain ⟨w0, hw0, hb0, hz, hA, hR⟩ := tb_boxes w (.slice A m c)
  have HX0 := Lib.hid hA
  have HR0 := Lib.hid hR
  have HB0 := Lib.hid hb0
  have HW0 := Lib.hid hw0
  have HZ := Lib.hid hz
  have hn : m = zs.length := h.row.lenZ
  have HN := Lib.hid hn
  have HCK := Lib.hid (rcheck_any w0 _ zs (H.out.below hb0))
  unfold chkT at HCK
  have HFI := Lib.hid fun w1 (hb : Below w.heap.size w w1) => rfind_any10 w1 _ zs p (H.out.below hb)
  by_cases hok : tbOk zs
  · rw [if_pos hok] at HCK
    by_cases hn0 : n < 0
    · have hf : setT zs n p = ([], 2) := if_pos (.inr (.inl hn0))
      rw [hf]
      clear h hn hw0 hok hf hb0 hz hA hR
      go_enter Try.func17, Try.ntmps17
      go_wp2_with fail
      rw [HW0.out]
      have c1 := HX0.out.c0
      go_wp2_with fail
      refine HCK.out.mono ?_
      rintro e w1 ⟨rfl, hb1⟩
      have HX1 : Hid (TbBox w1 w.heap.size (.slice A m c)) := HX0.out.below hb1
      have HR1 : Hid (TbBox w1 (w.heap.size + 1) (.slice none 0 0)) := HR0.out.below hb1
      have HB1 : Hid (Below w.heap.size w w1) := HB0.out.trans (hb1.mono HB0.out.size)
      have HL1 : Hid (w.heap.size + 2 ≤ w1.heap.size) := HZ.out ▸ hb1.size
      clear hb1 c1
      have c1 := HX1.out.c0
      go_wp2_with (refine wpList_storeS HR1.out tbInfo rfl _ _ rfl rfl (ds := [.slice none 0 0]) rfl rfl (one_tb none 0 0) ?_; intro w9 hR9 hg9 hz9)
      refine ret_s2 hR9 Try.underlying24 tbInfo rfl rfl rfl _ rfl ?_
      exact ⟨_, rfl, RowO.nil _ _, HB1.out.grown hg9 HB1.out.size (fun k e => by cases e; omega)⟩
    · have hn6 : n < 65536 := by omega
      by_cases hp1 : p < 2
      · have hf : setT zs n p = ([], 2) := if_pos (.inr (.inr (.inr (fun h => by have := h.1; omega))))
        rw [hf]
        have hnn : 0 ≤ n := by omega
        clear h hn hw0 hok hf hb0 hz hA hR hn0 hn3
        go_enter Try.func17, Try.ntmps17
        go_wp2_with fail
        rw [HW0.out]
        have c1 := HX0.out.c0
        go_wp2_with fail
        refine HCK.out.mono ?_
        rintro e w1 ⟨rfl, hb1⟩
        have HX1 : Hid (TbBox w1 w.heap.size (.slice A m c)) := HX0.out.below hb1
        have HR1 : Hid (TbBox w1 (w.heap.size + 1) (.slice none 0 0)) := HR0.out.below hb1
        have HB1 : Hid (Below w.heap.size w w1) := HB0.out.trans (hb1.mono HB0.out.size)
        have HL1 : Hid (w.heap.size + 2 ≤ w1.heap.size) := HZ.out ▸ hb1.size
        clear hb1 c1
        have c1 := HX1.out.c0
        go_wp2_with (refine wpList_storeS HR1.out tbInfo rfl _ _ rfl rfl (ds := [.slice none 0 0]) rfl rfl (one_tb none 0 0) ?_; intro w9 hR9 hg9 hz9)
        refine ret_s2 hR9 Try.underlying24 tbInfo rfl rfl rfl _ rfl ?_
        exact ⟨_, rfl, RowO.nil _ _, HB1.out.grown hg9 HB1.out.size (fun k e => by cases e; omega)⟩
      · by_cases hp2 : 4096 ≤ p
        · have hf : setT zs n p = ([], 2) := if_pos (.inr (.inr (.inr (fun h => by have := h.2; omega))))
          rw [hf]
          have hnn : 0 ≤ n := by omega
          have hpp : 2 ≤ p := by omega
          clear h hn hw0 hok hf hb0 hz hA hR hn0 hp1 hn3
          go_enter Try.func17, Try.ntmps17
          go_wp2_with fail
          rw [HW0.out]
          have c1 := HX0.out.c0
          go_wp2_with fail
          refine HCK.out.mono ?_
          rintro e w1 ⟨rfl, hb1⟩
          have HX1 : Hid (TbBox w1 w.heap.size (.slice A m c)) := HX0.out.below hb1
          have HR1 : Hid (TbBox w1 (w.heap.size + 1) (.slice none 0 0)) := HR0.out.below hb1
          have HB1 : Hid (Below w.heap.size w w1) := HB0.out.trans (hb1.mono HB0.out.size)
          have HL1 : Hid (w.heap.size + 2 ≤ w1.heap.size) := HZ.out ▸ hb1.size
          clear hb1 c1
          have c1 := HX1.out.c0
          go_wp2_with (refine wpList_storeS HR1.out tbInfo rfl _ _ rfl rfl (ds := [.slice none 0 0]) rfl rfl (one_tb none 0 0) ?_; intro w9 hR9 hg9 hz9)
          refine ret_s2 hR9 Try.underlying24 tbInfo rfl rfl rfl _ rfl ?_
          exact ⟨_, rfl, RowO.nil _ _, HB1.out.grown hg9 HB1.out.size (fun k e => by cases e; omega)⟩
        · have hnn : 0 ≤ n := by omega
          have hpp : 2 ≤ p := by omega
          have hpl : p < 4096 := by omega
          have hpg : pgOk p := ⟨hpp, hpl⟩
          have hbad : ¬ (¬ tbOk zs ∨ n < 0 ∨ 65536 ≤ n ∨ ¬ pgOk p) := fun h => h.elim (fun h => h hok) (fun h => h.elim hn0 (fun h => h.elim (by omega) (fun h => h hpg)))
          by_cases hi : idxZ zs p < zs.length ∧ idxZ zs p ≠ n.toNat
          · have hf : setT zs n p = ([], 7) := by
              unfold setT
              rw [if_neg hbad, if_pos hi]
            have hx : findT zs p = (((idxZ zs p : Nat) : Int), true) := if_pos ⟨hok, hpg, hi.1⟩
            rw [hf]
            rw [hx] at HFI
            have hij : (((idxZ zs p : Nat) : Int) != n) = true := by have := hi.2; simp; omega
            generalize ((idxZ zs p : Nat) : Int) = j at *
            clear h hn hw0 hok hf hb0 hz hA hR hbad hi hx hpg hn0 hp1 hp2 hn3
            go_enter Try.func17, Try.ntmps17
            go_wp2_with fail
            rw [HW0.out]
            have c1 := HX0.out.c0
            go_wp2_with fail
            refine HCK.out.mono ?_
            rintro e w1 ⟨rfl, hb1⟩
            have HX1 : Hid (TbBox w1 w.heap.size (.slice A m c)) := HX0.out.below hb1
            have HR1 : Hid (TbBox w1 (w.heap.size + 1) (.slice none 0 0)) := HR0.out.below hb1
            have HB1 : Hid (Below w.heap.size w w1) := HB0.out.trans (hb1.mono HB0.out.size)
            have HL1 : Hid (w.heap.size + 2 ≤ w1.heap.size) := HZ.out ▸ hb1.size
            clear hb1 c1
            have c1 := HX1.out.c0
            go_wp2_with fail
            refine (HFI.out w1 HB1.out).mono ?_
            rintro e w2 ⟨rfl, hb2⟩
            have HX2 : Hid (TbBox w2 w.heap.size (.slice A m c)) := HX1.out.below hb2
            have HR2 : Hid (TbBox w2 (w.heap.size + 1) (.slice none 0 0)) := HR1.out.below hb2
            have HB2 : Hid (Below w.heap.size w w2) := HB1.out.trans (hb2.mono HB1.out.size)
            have HL2 : Hid (w.heap.size + 2 ≤ w2.heap.size) := Nat.le_trans HL1.out hb2.size
            clear hb2 c1
            have c1 := HX2.out.c0
            go_wp2_with (refine wpList_storeS HR2.out tbInfo rfl _ _ rfl rfl (ds := [.slice none 0 0]) rfl rfl (one_tb none 0 0) ?_; intro w9 hR9 hg9 hz9)
            refine ret_s2 hR9 Try.underlying24 tbInfo rfl rfl rfl _ rfl ?_
            exact ⟨_, rfl, RowO.nil _ _, HB2.out.grown hg9 HB2.out.size (fun k e => by cases e; omega)⟩
          · have hf : setT zs n p = (setL zs n.toNat p, 0) := by
              unfold setT
              rw [if_neg hbad, if_neg hi]
            rw [hf]
            obtain ⟨i0, hi0, hz0, hz1, hz2⟩ := info_parts iinfo
            have HLZ : Hid (zs.length ≤ 65536) := h.len
            have HLZ4 : Hid ((setL zs n.toNat p).length ≤ 1073741824) := by rw [Hid, setL_len]; have := h.len; omega
            have HTS : Hid (trimL (setL zs n.toNat p) = setL zs n.toNat p) := trimL_same (setL_trim hok.2.1 (by omega))
            by_cases hix : idxZ zs p < zs.length
            · have hx : findT zs p = (n, true) := by
                have : idxZ zs p = n.toNat := Classical.byContradiction fun hne => hi ⟨hix, hne⟩
                unfold findT
                rw [if_pos ⟨hok, hpg, hix⟩, this, Int.toNat_of_nonneg hnn]
              rw [hx] at HFI
              clear h hn hw0 hok hf hb0 hz hA hR hbad hi hx hpg hn0 hp1 hp2 hix
              go_enter Try.func17, Try.ntmps17
              go_wp2_with fail
              rw [HW0.out]
              have c1 := HX0.out.c0
              go_wp2_with fail
              refine HCK.out.mono ?_
              rintro e w1 ⟨rfl, hb1⟩
              have HX1 : Hid (TbBox w1 w.heap.size (.slice A m c)) := HX0.out.below hb1
              have HR1 : Hid (TbBox w1 (w.heap.size + 1) (.slice none 0 0)) := HR0.out.below hb1
              have HB1 : Hid (Below w.heap.size w w1) := HB0.out.trans (hb1.mono HB0.out.size)
              have HL1 : Hid (w.heap.size + 2 ≤ w1.heap.size) := HZ.out ▸ hb1.size
              clear hb1 c1
              have c1 := HX1.out.c0
              go_wp2_with fail
              refine (HFI.out w1 HB1.out).mono ?_
              rintro e w2 ⟨rfl, hb2⟩
              have HX2 : Hid (TbBox w2 w.heap.size (.slice A m c)) := HX1.out.below hb2
              have HR2 : Hid (TbBox w2 (w.heap.size + 1) (.slice none 0 0)) := HR1.out.below hb2
              have HB2 : Hid (Below w.heap.size w w2) := HB1.out.trans (hb2.mono HB1.out.size)
              have HL2 : Hid (w.heap.size + 2 ≤ w2.heap.size) := Nat.le_trans HL1.out hb2.size
              clear hb2 c1
              have c1 := HX2.out.c0
              have hlt2 := HX2.out.lt
              go_wp2_with (first
                | (at_builtin; refine wpList_appV rfl (.tmp 44) (.tmp 46) _ rfl w2.heap.size 3 8 i0 _ Try.underlying22 hi0 hz0 hz1 hz2 rfl _ [] rfl (OwnV.empty w2 3) _ (intC zs) rfl (H.out.row.below (HB2.out.trans ((below_new w2 _).mono HB2.out.size))) (intC_one zs) (by have := HLZ.out; rw [intC_len]; simp only [List.length_nil]; omega) (by have := HLZ.out; rw [intC_len]; simp only [List.length_nil, maxLen]; omega) (by simp) ?_; intro v3 w3 hown3 hg3 hat3
                   have HV3 : Hid (OwnV w3 w2.heap.size 3 v3 (intC zs)) := by rw [List.nil_append] at hown3; exact hown3
                   have hb3 : Below w2.heap.size w2 w3 := OwnV.below (OwnV.empty w2 3) (below_new w2 _) (by simp) hg3
                   have HR3 : Hid (TbBox w3 (w.heap.size + 1) (.slice none 0 0)) := HR2.out.below hb3
                   have HB3 : Hid (Below w.heap.size w w3) := HB2.out.trans (hb3.mono HB2.out.size)
                   obtain ⟨A3, n3, c3, rfl, _, hn3, hc3⟩ := HV3.out.rowz.form
                   have hl3 := HV3.out.rowz.lenZ
                   have HN3 := Lib.hid hl3
                   have HS3 : Hid (w2.heap.size ≤ w3.heap.size) := hb3.size
                   clear hown3 hg3 hat3 hb3 c1 hlt2 hl3))
              go_loopw [10] (fun v wr => StRel w w2.heap.size zs n v wr) (fun v _ => n.toNat + 1 - lenZv v)
              case atStart => exact ⟨n3, A3, c3, rfl, by have := HN3.out; omega, by have := HN3.out; omega, by rw [show n3 - zs.length = 0 by have := HN3.out; omega, List.replicate_zero, List.append_nil]; exact HV3.out, HR3.out, HB3.out, HS3.out⟩
              case round =>
                obtain ⟨q, A', c', rfl, hq1, hq2, hown, hbx, hbl, hsz⟩ := hrel
                have HO := Lib.hid hown
                have HQ : Hid (zs.length ≤ q ∧ q ≤ max zs.length (n.toNat + 1)) := ⟨hq1, hq2⟩
                have HBX := Lib.hid hbx
                have HBL := Lib.hid hbl
                have HSZ := Lib.hid hsz
                have HIL : Hid ((intC (zs ++ List.replicate (q - zs.length) 0)).length = q) := by rw [Hid, intC_len, List.length_append, List.length_replicate]; omega
                clear hown hbx hbl hsz hq1 hq2
                have hq65 : (q : Int) ≤ 70000 := by have := HQ.out; have := HLZ.out; omega
                by_cases hle : (q : Int) ≤ n
                · have HLE : Hid ((q : Int) ≤ n) := hle
                  go_wp2_with (at_builtin; refine wpList_appV rfl (.tmp 52) (.tmp 53) _ rfl w2.heap.size 3 8 i0 _ Try.underlying22 hi0 hz0 hz1 hz2 rfl _ (intC (zs ++ List.replicate (q - zs.length) 0)) rfl (HO.out.keep (below_new wr _)) _ [.int .i64 0] rfl (Rowz.litV wr [.int .i64 0] 3 (by simp [maxLen])) (by simp [Value.oneCell']) (by rw [HIL.out]; simp only [List.length_cons, List.length_nil]; omega) (by rw [HIL.out]; simp only [List.length_cons, List.length_nil, maxLen]; omega) (by have := HSZ.out; simp; omega) ?_; intro v5 w5 hown5 hg5 hat5
                               have hb5 : Below w2.heap.size wr w5 := OwnV.below (HO.out.keep (below_new wr _)) ((Below.refl _ _).alloc HSZ.out _) (by have := HSZ.out; simp; omega) hg5
                               obtain ⟨A5, q5, c5, rfl, _, hn5, hc5⟩ := hown5.rowz.form
                               have he5 : intC (zs ++ List.replicate (q - zs.length) 0) ++ [.int .i64 0] = intC (zs ++ List.replicate (q + 1 - zs.length) 0) := by
                                 rw [show q + 1 - zs.length = (q - zs.length) + 1 by have := HQ.out; omega, List.replicate_succ', ← List.append_assoc, intC_app (zs ++ _)]
                                 rfl
                               rw [he5] at hown5
                               have hq5 : q5 = q + 1 := by
                                 have := hown5.rowz.lenZ
                                 rw [this, List.length_append, List.length_replicate]
                                 have := HQ.out
                                 omega
                               have HO5 := Lib.hid hown5
                               have HQ5 := Lib.hid hq5
                               have HBX5 : Hid (TbBox w5 (w.heap.size + 1) (.slice none 0 0)) := HBX.out.same (hb5.block _ (by have := HL2.out; omega))
                               have HBL5 : Hid (Below w.heap.size w w5) := HBL.out.trans (hb5.mono (by have := HL2.out; omega))
                               have HS5 : Hid (w2.heap.size ≤ w5.heap.size) := Nat.le_trans HSZ.out hb5.size
                               clear hown5 hg5 hat5 hb5 he5 hq5)
                  go_roundw
                  case rel => exact ⟨q5, A5, c5, rfl, by have := HQ.out; have := HQ5.out; omega, by have := HQ.out; have := HQ5.out; have := HLE.out; omega, by rw [HQ5.out]; rw [HQ5.out] at HO5; exact HO5.out, HBX5.out, HBL5.out, HS5.out⟩
                  case measure => have := HQ5.out; have := HLE.out; simp [lenZv]; omega
                · have HQM : Hid (q - zs.length = n.toNat + 1 - zs.length) := by have := HQ.out; rw [Hid]; omega
                  have hnq : n < (q : Int) := by omega
                  have HNQ : Hid (n.toNat < q) := by rw [Hid]; omega
                  obtain ⟨g, c3', e', hBg, hgl, hc4, hc4', _, _⟩ := OwnV.form HO.out (by rw [HIL.out]; omega)
                  rw [HIL.out] at e' hc4
                  cases e'
                  have HBG : Hid (w2.heap.size ≤ g) := hBg
                  clear hBg hgl hc4 hc4'
                  go_wp2_with (refine wpList_put1 3 rfl (.tmp 58) (.tmp 57) rfl n.toNat (.int .i64 p) rfl rfl rfl intInfo1 _ (own_at HO.out HIL.out HNQ.out) (own_thaw HO.out n.toNat) ?_; intro w4 hw4
                               have hg4 : wr.grownBy w4 (some g) := by rw [hw4]; exact grown_set wr g n.toNat _
                               have HO4 : Hid (OwnV w4 w2.heap.size 3 (.slice (some ⟨g, 0, none⟩) q c') (intC (setL zs n.toNat p))) := by
                                 unfold setL
                                 rw [← HQM.out, hw4, intC_set]
                                 exact OwnV.set HO.out HIL.out n.toNat (.int .i64 p)
                               have HR4 : Hid (TbBox w4 (w.heap.size + 1) (.slice none 0 0)) := HBX.out.grown hg4 (by have := HL2.out; have := HBG.out; omega)
                               have HB4 : Hid (Below w.heap.size w w4) := HBL.out.grown hg4 HBL.out.size (fun k e => by cases e; have := HL2.out; have := HBG.out; omega)
                               have HS4 : Hid (w2.heap.size ≤ w4.heap.size) := Nat.le_trans HSZ.out hg4.size
                               clear hw4 hg4)
                  refine (rtight_any _ _ (setL zs n.toNat p) HO4.out.rowz (by have := HLZ4.out; omega)).mono ?_
                  rintro e w5 ⟨x5, rfl, hx5, hown5, ⟨A5, c5, rfl⟩, hb5⟩
                  have HX5 : Hid (RowO w5 w2.heap.size (.slice A5 (trimL (setL zs n.toNat p)).length c5) (trimL (setL zs n.toNat p))) := RowO.mk' hx5 (fun k hk => HO4.out.rowO.2 k (hown5 k hk)) hb5.size
                  have HR5 : Hid (TbBox w5 (w.heap.size + 1) (.slice none 0 0)) := HR4.out.below hb5
                  have HB5 : Hid (Below w.heap.size w w5) := HB4.out.trans (hb5.mono HB4.out.size)
                  generalize (trimL (setL zs n.toNat p)).length = q5 at *
                  clear hx5 hown5 hb5
                  go_wp2_with (refine wpList_storeS HR5.out tbInfo rfl _ _ rfl rfl (ds := [.slice A5 q5 c5]) rfl rfl (one_tb _ _ _) ?_; intro w6 hR6 hg6 hz6)
                  refine ret_s2 hR6 Try.underlying24 tbInfo rfl rfl rfl _ rfl ?_
                  rw [HTS.out] at HX5
                  exact ⟨_, rfl, (HX5.out.grown hg6 (by have := HL2.out; omega)).lower HB2.out.size, HB5.out.grown hg6 HB5.out.size (fun k e => by cases e; omega)⟩
            · have hx : findT zs p = (0, false) := if_neg (fun h => hix h.2.2)
              rw [hx] at HFI
              clear h hn hw0 hok hf hb0 hz hA hR hbad hi hx hpg hn0 hp1 hp2 hix
              go_enter Try.func17, Try.ntmps17
              go_wp2_with fail
              rw [HW0.out]
              have c1 := HX0.out.c0
              go_wp2_with fail
              refine HCK.out.mono ?_
              rintro e w1 ⟨rfl, hb1⟩
              have HX1 : Hid (TbBox w1 w.heap.size (.slice A m c)) := HX0.out.below hb1
              have HR1 : Hid (TbBox w1 (w.heap.size + 1) (.slice none 0 0)) := HR0.out.below hb1
              have HB1 : Hid (Below w.heap.size w w1) := HB0.out.trans (hb1.mono HB0.out.size)
              have HL1 : Hid (w.heap.size + 2 ≤ w1.heap.size) := HZ.out ▸ hb1.size
              clear hb1 c1
              have c1 := HX1.out.c0
              go_wp2_with fail
              refine (HFI.out w1 HB1.out).mono ?_
              rintro e w2 ⟨rfl, hb2⟩
              have HX2 : Hid (TbBox w2 w.heap.size (.slice A m c)) := HX1.out.below hb2
              have HR2 : Hid (TbBox w2 (w.heap.size + 1) (.slice none 0 0)) := HR1.out.below hb2
              have HB2 : Hid (Below w.heap.size w w2) := HB1.out.trans (hb2.mono HB1.out.size)
              have HL2 : Hid (w.heap.size + 2 ≤ w2.heap.size) := Nat.le_trans HL1.out hb2.size
              clear hb2 c1
              have c1 := HX2.out.c0
              have hlt2 := HX2.out.lt
              go_wp2_with (first
                | (at_builtin; refine wpList_appV rfl (.tmp 44) (.tmp 46) _ rfl w2.heap.size 3 8 i0 _ Try.underlying22 hi0 hz0 hz1 hz2 rfl _ [] rfl (OwnV.empty w2 3) _ (intC zs) rfl (H.out.row.below (HB2.out.trans ((below_new w2 _).mono HB2.out.size))) (intC_one zs) (by have := HLZ.out; rw [intC_len]; simp only [List.length_nil]; omega) (by have := HLZ.out; rw [intC_len]; simp only [List.length_nil, maxLen]; omega) (by simp) ?_; intro v3 w3 hown3 hg3 hat3
                   have HV3 : Hid (OwnV w3 w2.heap.size 3 v3 (intC zs)) := by rw [List.nil_append] at hown3; exact hown3
                   have hb3 : Below w2.heap.size w2 w3 := OwnV.below (OwnV.empty w2 3) (below_new w2 _) (by simp) hg3
                   have HR3 : Hid (TbBox w3 (w.heap.size + 1) (.slice none 0 0)) := HR2.out.below hb3
                   have HB3 : Hid (Below w.heap.size w w3) := HB2.out.trans (hb3.mono HB2.out.size)
                   obtain ⟨A3, n3, c3, rfl, _, hn3, hc3⟩ := HV3.out.rowz.form
                   have hl3 := HV3.out.rowz.lenZ
                   have HN3 := Lib.hid hl3
                   have HS3 : Hid (w2.heap.size ≤ w3.heap.size) := hb3.size
                   clear hown3 hg3 hat3 hb3 c1 hlt2 hl3))
              go_loopw [10] (fun v wr => StRel w w2.heap.size zs n v wr) (fun v _ => n.toNat + 1 - lenZv v)
              case atStart => exact ⟨n3, A3, c3, rfl, by have := HN3.out; omega, by have := HN3.out; omega, by rw [show n3 - zs.length = 0 by have := HN3.out; omega, List.replicate_zero, List.append_nil]; exact HV3.out, HR3.out, HB3.out, HS3.out⟩
              case round =>
                obtain ⟨q, A', c', rfl, hq1, hq2, hown, hbx, hbl, hsz⟩ := hrel
                have HO := Lib.hid hown
                have HQ : Hid (zs.length ≤ q ∧ q ≤ max zs.length (n.toNat + 1)) := ⟨hq1, hq2⟩
                have HBX := Lib.hid hbx
                have HBL := Lib.hid hbl
                have HSZ := Lib.hid hsz
                have HIL : Hid ((intC (zs ++ List.replicate (q - zs.length) 0)).length = q) := by rw [Hid, intC_len, List.length_append, List.length_replicate]; omega
                clear hown hbx hbl hsz hq1 hq2
                have hq65 : (q : Int) ≤ 70000 := by have := HQ.out; have := HLZ.out; omega
                by_cases hle : (q : Int) ≤ n
                · have HLE : Hid ((q : Int) ≤ n) := hle
                  go_wp2_with (at_builtin; refine wpList_appV rfl (.tmp 52) (.tmp 53) _ rfl w2.heap.size 3 8 i0 _ Try.underlying22 hi0 hz0 hz1 hz2 rfl _ (intC (zs ++ List.replicate (q - zs.length) 0)) rfl (HO.out.keep (below_new wr _)) _ [.int .i64 0] rfl (Rowz.litV wr [.int .i64 0] 3 (by simp [maxLen])) (by simp [Value.oneCell']) (by rw [HIL.out]; simp only [List.length_cons, List.length_nil]; omega) (by rw [HIL.out]; simp only [List.length_cons, List.length_nil, maxLen]; omega) (by have := HSZ.out; simp; omega) ?_; intro v5 w5 hown5 hg5 hat5
                               have hb5 : Below w2.heap.size wr w5 := OwnV.below (HO.out.keep (below_new wr _)) ((Below.refl _ _).alloc HSZ.out _) (by have := HSZ.out; simp; omega) hg5
                               obtain ⟨A5, q5, c5, rfl, _, hn5, hc5⟩ := hown5.rowz.form
                               have he5 : intC (zs ++ List.replicate (q - zs.length) 0) ++ [.int .i64 0] = intC (zs ++ List.replicate (q + 1 - zs.length) 0) := by
                                 rw [show q + 1 - zs.length = (q - zs.length) + 1 by have := HQ.out; omega, List.replicate_succ', ← List.append_assoc, intC_app (zs ++ _)]
                                 rfl
                               rw [he5] at hown5
                               have hq5 : q5 = q + 1 := by
                                 have := hown5.rowz.lenZ
                                 rw [this, List.length_append, List.length_replicate]
                                 have := HQ.out
                                 omega
                               have HO5 := Lib.hid hown5
                               have HQ5 := Lib.hid hq5
                               have HBX5 : Hid (TbBox w5 (w.heap.size + 1) (.slice none 0 0)) := HBX.out.same (hb5.block _ (by have := HL2.out; omega))
                               have HBL5 : Hid (Below w.heap.size w w5) := HBL.out.trans (hb5.mono (by have := HL2.out; omega))
                               have HS5 : Hid (w2.heap.size ≤ w5.heap.size) := Nat.le_trans HSZ.out hb5.size
                               clear hown5 hg5 hat5 hb5 he5 hq5)
                  go_roundw
                  case rel => exact ⟨q5, A5, c5, rfl, by have := HQ.out; have := HQ5.out; omega, by have := HQ.out; have := HQ5.out; have := HLE.out; omega, by rw [HQ5.out]; rw [HQ5.out] at HO5; exact HO5.out, HBX5.out, HBL5.out, HS5.out⟩
                  case measure => have := HQ5.out; have := HLE.out; simp [lenZv]; omega
                · have HQM : Hid (q - zs.length = n.toNat + 1 - zs.length) := by have := HQ.out; rw [Hid]; omega
                  have hnq : n < (q : Int) := by omega
                  have HNQ : Hid (n.toNat < q) := by rw [Hid]; omega
                  obtain ⟨g, c3', e', hBg, hgl, hc4, hc4', _, _⟩ := OwnV.form HO.out (by rw [HIL.out]; omega)
                  rw [HIL.out] at e' hc4
                  cases e'
                  have HBG : Hid (w2.heap.size ≤ g) := hBg
                  clear hBg hgl hc4 hc4'
                  go_wp2_with (refine wpList_put1 3 rfl (.tmp 58) (.tmp 57) rfl n.toNat (.int .i64 p) rfl rfl rfl intInfo1 _ (own_at HO.out HIL.out HNQ.out) (own_thaw HO.out n.toNat) ?_; intro w4 hw4
                               have hg4 : wr.grownBy w4 (some g) := by rw [hw4]; exact grown_set wr g n.toNat _
                               have HO4 : Hid (OwnV w4 w2.heap.size 3 (.slice (some ⟨g, 0, none⟩) q c') (intC (setL zs n.toNat p))) := by
                                 unfold setL
                                 rw [← HQM.out, hw4, intC_set]
                                 exact OwnV.set HO.out HIL.out n.toNat (.int .i64 p)
                               have HR4 : Hid (TbBox w4 (w.heap.size + 1) (.slice none 0 0)) := HBX.out.grown hg4 (by have := HL2.out; have := HBG.out; omega)
                               have HB4 : Hid (Below w.heap.size w w4) := HBL.out.grown hg4 HBL.out.size (fun k e => by cases e; have := HL2.out; have := HBG.out; omega)
                               have HS4 : Hid (w2.heap.size ≤ w4.heap.size) := Nat.le_trans HSZ.out hg4.size
                               clear hw4 hg4)
                  refine (rtight_any _ _ (setL zs n.toNat p) HO4.out.rowz (by have := HLZ4.out; omega)).mono ?_
                  rintro e w5 ⟨x5, rfl, hx5, hown5, ⟨A5, c5, rfl⟩, hb5⟩
                  have HX5 : Hid (RowO w5 w2.heap.size (.slice A5 (trimL (setL zs n.toNat p)).length c5) (trimL (setL zs n.toNat p))) := RowO.mk' hx5 (fun k hk => HO4.out.rowO.2 k (hown5 k hk)) hb5.size
                  have HR5 : Hid (TbBox w5 (w.heap.size + 1) (.slice none 0 0)) := HR4.out.below hb5
                  have HB5 : Hid (Below w.heap.size w w5) := HB4.out.trans (hb5.mono HB4.out.size)
                  generalize (trimL (setL zs n.toNat p)).length = q5 at *
                  clear hx5 hown5 hb5
                  go_wp2_with (refine wpList_storeS HR5.out tbInfo rfl _ _ rfl rfl (ds := [.slice A5 q5 c5]) rfl rfl (one_tb _ _ _) ?_; intro w6 hR6 hg6 hz6)
                  refine ret_s2 hR6 Try.underlying24 tbInfo rfl rfl rfl _ rfl ?_
                  rw [HTS.out] at HX5
                  exact ⟨_, rfl, (HX5.out.grown hg6 (by have := HL2.out; omega)).lower HB2.out.size, HB5.out.grown hg6 HB5.out.size (fun k e => by cases e; omega)⟩
  · rw [if_neg hok] at HCK
    have hf : setT zs n p = ([], 2) := if_pos (.inl hok)
    rw [hf]
    clear h hn hw0 hok hf hb0 hz hA hR
    go_enter Try.func17, Try.ntmps17
    go_wp2_with fail
    rw [HW0.out]
    have c1 := HX0.out.c0
    go_wp2_with fail
    refine HCK.out.mono ?_
    rintro e w1 ⟨rfl, hb1⟩
    have HX1 : Hid (TbBox w1 w.heap.size (.slice A m c)) := HX0.out.below hb1
    have HR1 : Hid (TbBox w1 (w.heap.size + 1) (.slice none 0 0)) := HR0.out.below hb1
    have HB1 : Hid (Below w.heap.size w w1) := HB0.out.trans (hb1.mono HB0.out.size)
    have HL1 : Hid (w.heap.size + 2 ≤ w1.heap.size) := HZ.out ▸ hb1.size
    clear hb1 c1
    have c1 := HX1.out.c0
    go_wp2_with (refine wpList_storeS HR1.out tbInfo rfl _ _ rfl rfl (ds := [.slice none 0 0]) rfl rfl (one_tb none 0 0) ?_; intro w9 hR9 hg9 hz9)
    refine ret_s2 hR9 Try.underlying24 tbInfo rfl rfl rfl _ rfl ?_
    exact ⟨_, rfl, RowO.nil _ _, HB1.out.grown hg9 HB1.out.size (fun k e => by cases e; omega)⟩
end Go.Proofs.Ythakkaffjnkhgaa
