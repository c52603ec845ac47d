/-
  The document's answer for space, by definition: tallymanref08.Check, Use, Give. Conditions: none.
-/
import Derived.Test.YtncjobeahpjnpaaSpL
import Derived.Test.YtncjobeahpjnpaaOrdF
namespace Go.Proofs.Ytncjobeahpjnpaa
open Go.ChangeShapes Go.WideShapes Go.ChangeAt Go.RowKit Go.Maps
set_option maxRecDepth 100000
set_option linter.unusedVariables false
set_option linter.unusedSimpArgs false

theorem SBox.grownO' {w w' : World} {g : Nat} {ob : Option Nat} {t : TypeId} {cs : List Value} (h : SBox w g t cs) (hg : w.grownBy w' ob) (hne : ob ≠ some g) : SBox w' g t cs :=
  h.same (hg.block g h.lt (fun e => hne (by first | exact e | exact e.symm)))
theorem boo_first {l : List Bool} {b : Bool} {i : Nat} (h : i < l.length) (hb : l[i] = b) : l[i]? = some b := by rw [List.getElem?_eq_getElem h, hb]
set_option maxHeartbeats 2000000 in
theorem r8check_any (w : World) (p : Int) (v : Value) (l : List Bool) (hv : Boos w v l) (hlen : l.length ≤ 70368744177664) :
    Calls Try.prog 30 #[.agg #[.int .i64 p, v]] w fun e w' => e = .returned (.int .i64 (if spOk p l then 0 else 2)) ∧ Below w.heap.size w w' := by
  obtain ⟨w0, hw0⟩ : ∃ w0, w.alloc (.cells #[.int .i64 p, v] 24) = w0 := ⟨_, rfl⟩
  have hb0 : Below w.heap.size w w0 := hw0 ▸ below_new w _
  have hS : SpBox w0 w.heap.size p v := hw0 ▸ SBox.new w 24 [.int .i64 p, v]
  obtain ⟨A, n, c, rfl, N, hnc, hcm⟩ := hv.form
  have HV : Hid (Boos w0 (.slice A n c) l) := hv.below hb0
  have S0 := Lib.hid hS
  have HB0 := Lib.hid hb0
  have HW0 := Lib.hid hw0
  generalize hr : (if spOk p l then (0 : Int) else 2) = r
  have HR := Lib.hid hr
  clear hv hlen hb0 hw0 hS hr
  by_cases h8 : p < 8
  · obtain rfl : r = 2 := by rw [← HR.out]; exact if_neg (fun h => by have := h.1; omega)
    go_enter Try.func30, Try.ntmps30
    go_wp2_with fail
    go_ret
    exact ⟨rfl, below_new w _⟩
  · by_cases h9 : 4096 < p
    · obtain rfl : r = 2 := by rw [← HR.out]; exact if_neg (fun h => by have := h.2.1; omega)
      go_enter Try.func30, Try.ntmps30
      go_wp2_with fail
      go_ret
      exact ⟨rfl, below_new w _⟩
    · by_cases hn : (n : Int) = p
      · have hl : 2 ≤ l.length := by have := N.out; omega
        obtain ⟨b, off, rfl, hb, hc⟩ := HV.out.at (show 0 < l.length by omega)
        have c0 := hc 0 (by omega)
        rw [Nat.add_zero, ← HW0.out] at c0
        have c1 := hc 1 (by omega)
        rw [← HW0.out] at c1
        have e0 := boo_first (show 0 < l.length by omega) rfl
        have e1 := boo_first (show 1 < l.length by omega) rfl
        generalize l[0]'(show 0 < l.length by omega) = b0 at c0 e0
        generalize l[1]'(show 1 < l.length by omega) = b1 at c1 e1
        have E0 := Lib.hid e0
        have E1 := Lib.hid e1
        have hn0 : 0 < n := by omega
        have hn1 : 1 < n := by omega
        clear hc hb e0 e1 HV
        subst hn
        cases b0 with
        | false =>
          obtain rfl : r = 2 := by rw [← HR.out]; exact if_neg (fun h => by have := h.2.2.2.1; rw [E0.out] at this; cases this)
          go_enter Try.func30, Try.ntmps30
          go_wp2_with fail
          go_ret
          exact ⟨rfl, below_new w _⟩
        | true =>
          cases b1 with
          | false =>
            obtain rfl : r = 2 := by rw [← HR.out]; exact if_neg (fun h => by have := h.2.2.2.2; rw [E1.out] at this; cases this)
            go_enter Try.func30, Try.ntmps30
            go_wp2_with fail
            go_ret
            exact ⟨rfl, below_new w _⟩
          | true =>
            have h0 := E0.out
            have h1 := E1.out
            obtain rfl : r = 0 := by rw [← HR.out]; exact if_pos ⟨by omega, by omega, by have := N.out; omega, h0, h1⟩
            clear h0 h1
            go_enter Try.func30, Try.ntmps30
            go_wp2_with fail
            go_ret
            exact ⟨rfl, below_new w _⟩
      · have hnp : ¬ (n : Int) = p := hn
        obtain rfl : r = 2 := by rw [← HR.out]; exact if_neg (fun h => by have h1 := h.2.2.1; have h2 : n = l.length := N.out; exact hn (by omega))
        go_enter Try.func30, Try.ntmps30
        go_wp2_with fail
        go_ret
        exact ⟨rfl, below_new w _⟩
set_option maxHeartbeats 2000000 in
theorem r8with_any (w : World) (p : Int) (v : Value) (l : List Bool) (n : Nat) (b : Bool) (hv : Boos w v l) (hlen : l.length ≤ 70368744177664) (hn : n < l.length) :
    Calls Try.prog 39 #[.agg #[.int .i64 p, v], .int .i64 (n : Int), .bool b] w (SpMade w p (l.set n b)) := by
  obtain ⟨w0, hw0, hb0, hz, hA, hR⟩ := two_boxes w p v
  obtain ⟨A, m, c, rfl, N, hnc, hcm⟩ := hv.form
  obtain ⟨i0, hi0, hz0, hz1, hz2⟩ := info_parts binfo
  have HI0 : Hid (∃ i, Try.prog.info? 4 = some i ∧ i.zero = some (.bool false) ∧ i.size = 1 ∧ i.bytes = 1) := ⟨i0, hi0, hz0, hz1, hz2⟩
  clear hi0 hz0 hz1 hz2
  clear i0
  obtain ⟨w20, hw20⟩ : ∃ u, w0.drew = u := ⟨_, rfl⟩
  have HD20 := Lib.hid hw20
  have hnw : Below w0.heap.size w0 w20 := hw20 ▸ (Below.refl _ w0).drew
  have HA20 : Hid (SpBox w20 w.heap.size p (.slice A m c)) := SBox.below hA hnw
  have HR20 : Hid (SpBox w20 (w.heap.size + 1) 0 (.slice none 0 0)) := SBox.below hR hnw
  have HBZ : Hid (Below w.heap.size w w20) := hb0.trans (hnw.mono hb0.size)
  have HV : Hid (Boos w20 (.slice A m c) l) := hv.below HBZ.out
  have HB20 : Hid (Below w20.heap.size w20 w20) := Below.refl _ _
  have HG20 : Hid (w20.heap.size ≤ w20.heap.size) := Nat.le_refl _
  have HZ : Hid (w.heap.size ≤ w20.heap.size) := HBZ.out.size
  have HLEN := Lib.hid hlen
  have HN := Lib.hid hn
  have HW0 := Lib.hid hw0
  obtain ⟨kk, hkk⟩ : ∃ kk, kk = l.length := ⟨_, rfl⟩
  have HK := Lib.hid hkk
  have hnk : (n : Int) < (kk : Int) := by omega
  clear hv hlen hn hw0 hb0 hz hA hR hw20 hnw hkk
  go_enter Try.func39, Try.ntmps39
  go_wp2_with fail
  rw [HW0.out]
  refine wp_region_L (R := fun x y => Below w20.heap.size x y) (by kernel_rfl) (fun _ => Below.refl _ _) (fun h k => h.trans k) (by kernel_rfl) (fun d v c a w h => by cases d <;> exact h)
    [(0, false), (1, false), (3, false), (4, false)] 5 rfl (by kernel_rfl) (by kernel_rfl) (fun _ _ h => h) ?_
  simp only [sel, List.getElem?_toArray, List.getElem?_cons_succ, List.getElem?_cons_zero]
  rw [HD20.out]
  (refine schL_take ?_ rfl ?_ ?_; rotate_left; (focus (intro u hu; go_simp <;> rfl)); simp only [Act.put, List.setIfInBounds_toArray, List.set_cons_zero, List.set_cons_succ])
  (refine schL_take ?_ rfl ?_ ?_; rotate_left; (focus (intro u hu; have c0 := SpBox.c0 (SBox.below HA20.out hu); clear hu; go_simp <;> rfl)); simp only [Act.put, List.setIfInBounds_toArray, List.set_cons_zero, List.set_cons_succ])
  (refine schL_take ?_ rfl ?_ ?_; rotate_left; (focus (intro u hu; go_simp <;> rfl)); simp only [Act.put, List.setIfInBounds_toArray, List.set_cons_zero, List.set_cons_succ])
  (refine schL_take ?_ rfl ?_ ?_; rotate_left; (focus (intro u hu; have c1 := SpBox.c1 (SBox.below HA20.out hu); clear hu; go_simp <;> rfl)); simp only [Act.put, List.setIfInBounds_toArray, List.set_cons_zero, List.set_cons_succ])
  refine schL_nil ?_
  refine held_fork (R := fun x y => Below w20.heap.size x y) (fun h k => h.trans k) (i := 2) (j := 7) (by kernel_rfl) rfl rfl rfl rfl ?_ ?_
  · intro K hK
    go_simp
    refine hK _ _ ((below_new _ _).mono HG20.out) ?_
    clear hK K
    try simp only [Act.put, List.setIfInBounds_toArray, List.set_cons_zero, List.set_cons_succ]
    obtain ⟨w21, hw21⟩ : ∃ u, w20.alloc (.cells #[] 4) = u := ⟨_, rfl⟩
    have E21 : Hid (OwnV w21 w20.heap.size 4 (.slice (some ⟨w20.heap.size, 0, none⟩) 0 0) []) := hw21 ▸ OwnV.empty w20 4
    have hb21 : Below w20.heap.size w20 w21 := hw21 ▸ below_new _ _
    rw [hw21]
    have HB21 : Hid (Below w20.heap.size w20 w21) := HB20.out.trans (hb21.mono HG20.out)
    have HG21 : Hid (w20.heap.size ≤ w21.heap.size) := HB21.out.size
    have HGE : Hid (w20.heap.size ≤ w21.heap.size) := HG21.out
    have HGZ : Hid (w20.heap.size ≤ w20.heap.size) := Nat.le_refl _
    clear hb21 hw21
    refine held_fork (R := fun x y => Below w20.heap.size x y) (fun h k => h.trans k) (i := 5) (j := 7) (by kernel_rfl) rfl rfl rfl rfl ?_ ?_
    · intro K hK
      obtain ⟨i0, hi0, hz0, hz1, hz2⟩ := HI0.out
      refine wp_appV (.tmp 10) (.tmp 12) _ rfl w20.heap.size 4 1 i0 _ Try.underlying22 hi0 hz0 hz1 hz2 rfl _ [] rfl E21.out _ (booC l) rfl (HV.out.below HB21.out) (booC_one l) (by have := HLEN.out; simp only [booC_len, List.length_nil]; omega) (by have := HLEN.out; simp only [booC_len, List.length_nil, maxLen]; omega) HGE.out ?_
      intro v22 w22 ho hg hat
      have hbn : Below w20.heap.size w21 w22 := (Below.refl _ _).grown hg HG21.out (fun j hj => by have := (World.ownsRow.lt E21.out _ hj).1; have := HG20.out; omega)
      refine hK _ _ hbn ?_
      clear hK K hi0 hz0 hz1 hz2 i0
      try simp only [Act.put, List.setIfInBounds_toArray, List.set_cons_zero, List.set_cons_succ]
      rw [List.nil_append] at ho
      obtain ⟨g, c1, rfl, hBg, hgs, hc1, hc2, _, _⟩ := OwnV.form ho (by rw [booC_len]; have := HN.out; omega)
      rw [booC_len] at ho hc1 ⊢
      rw [← HK.out] at ho hc1 ⊢
      have HB22 : Hid (Below w20.heap.size w20 w22) := HB21.out.trans hbn
      have HG22 : Hid (w20.heap.size ≤ w22.heap.size) := HB22.out.size
      have HO22 : Hid (OwnV w22 w20.heap.size 4 (.slice (some ⟨g, 0, none⟩) kk c1) (booC l)) := ho
      have HGB : Hid (w20.heap.size ≤ g ∧ g < w22.heap.size) := ⟨hBg, hgs⟩
      refine held_of_sch (R := fun x y => Below w20.heap.size x y) (fun _ => Below.refl _ _) (fun h k => h.trans k) (by kernel_rfl) (fun d v c a w h => by cases d <;> exact h) [(6, false), (7, true), (8, true)] _ _ _ (by kernel_rfl) (by kernel_rfl) ?_
      simp only [sel, List.getElem?_toArray, List.getElem?_cons_succ, List.getElem?_cons_zero]
      iterate 1 (refine sch_take ?_ rfl ?_ ?_; rotate_left; (focus (intro u hu; go_simp <;> rfl)); simp only [Act.put, List.setIfInBounds_toArray, List.set_cons_zero, List.set_cons_succ])
      refine sch_call rfl ?_
      intro K hK
      go_simp
      refine hK _ _ ((below_new _ _).mono HG22.out) ?_
      clear hK K
      try simp only [Act.put, List.setIfInBounds_toArray, List.set_cons_zero, List.set_cons_succ]
      obtain ⟨w23, hw23⟩ : ∃ u, w22.alloc (.cells #[.int .i64 0, .slice none 0 0] 24) = u := ⟨_, rfl⟩
      have X23 : Hid (SpBox w23 w22.heap.size 0 (.slice none 0 0)) := hw23 ▸ SBox.new w22 24 [.int .i64 0, .slice none 0 0]
      have hb23 : Below w22.heap.size w22 w23 := hw23 ▸ below_new _ _
      rw [hw23]
      have HB23 : Hid (Below w20.heap.size w20 w23) := HB22.out.trans (hb23.mono HG22.out)
      have HG23 : Hid (w20.heap.size ≤ w23.heap.size) := HB23.out.size
      have HO23 : Hid (OwnV w23 w20.heap.size 4 (.slice (some ⟨g, 0, none⟩) kk c1) (booC l)) := OwnV.keep HO22.out hb23
      have HNE : Hid (w22.heap.size ≠ g) := by have := HGB.out; show _ ≠ _; omega
      have HBX : Hid (w20.heap.size ≤ w22.heap.size) := HG22.out
      clear hb23 hw23
      refine sch_call rfl ?_
      intro K hK
      refine wp_storeS1 X23.out spInfo (.tmp 7) (.tmp 14) rfl rfl (ds := [.int .i64 p, .slice (some ⟨g, 0, none⟩) kk c1]) rfl rfl (one_sp _ _ _ _) ?_
      intro w30 hs hg8 hz8
      have hbn8 : Below w20.heap.size w23 w30 := (Below.refl _ _).grown hg8 HG23.out (fun j e => by cases e; exact HBX.out)
      refine hK _ _ hbn8 ?_
      clear hK K
      try simp only [Act.put, List.setIfInBounds_toArray, List.set_cons_zero, List.set_cons_succ]
      refine sch_nil ?_
      have HX : Hid (SpBox w30 (w22.heap.size) p (.slice (some ⟨g, 0, none⟩) kk c1)) := hs
      have HO : Hid (OwnB w30 w.heap.size (.slice (some ⟨g, 0, none⟩) kk c1) l) := OwnV.lower (World.ownsRow.kept HO23.out hg8 (.inr (by simp [Value.ownBlock]; have := HNE.out; omega))) (by have := HZ.out; have := HGZ.out; omega)
      have HBW : Hid (Below w.heap.size w w30) := HBZ.out.trans ((HB23.out.trans hbn8).mono HBZ.out.size)
      have HR : Hid (SpBox w30 (w.heap.size + 1) 0 (.slice none 0 0)) := SBox.below HR20.out (HB23.out.trans hbn8)
      have HBG : Hid (w.heap.size + 1 < g) := by have := HGB.out; have := HR20.out.lt; have := HGZ.out; show _ < _; omega
      have HBXW : Hid (w.heap.size + 1 < w22.heap.size) := by have := HBX.out; have := HR20.out.lt; show _ < _; omega
      have hca := HX.out.c1
      clear hs hg8 hz8 hbn8
      obtain ⟨bx, hbx⟩ : ∃ bx, bx = w22.heap.size := ⟨_, rfl⟩
      rw [← hbx] at HX hca HNE HBXW ⊢
      clear hbx
      go_wp2_with (first
        | (refine wpList_put1 4 rfl (.tmp 19) (.tmp 18) rfl n (.bool b) rfl rfl rfl boolInfo1 _ (own_cellB HO.out (by have := HN.out; omega)) (own_frozenB HO.out n) ?_; intro w31 hw31
           have hg31 : w30.grownBy w31 (some g) := by rw [hw31]; exact grown_set w30 g n _
           have hO31 : Hid (OwnB w31 w.heap.size (.slice (some ⟨g, 0, none⟩) kk c1) (l.set n b)) := by rw [hw31]; exact own_setB HO.out HK.out.symm n b
           have hX31 : Hid (SpBox w31 bx p (.slice (some ⟨g, 0, none⟩) kk c1)) := HX.out.grown hg31 (by have := HNE.out; omega)
           have hR31 : Hid (SpBox w31 (w.heap.size + 1) 0 (.slice none 0 0)) := HR.out.grown hg31 (by have := HBG.out; omega)
           have hB31 : Hid (Below w.heap.size w w31) := by rw [hw31]; exact HBW.out.setCell (p := ⟨g, n, none⟩) (by show w.heap.size ≤ g; have := HBG.out; omega) _
           clear hw31 hg31 hca)
        | (refine wpList_loadS hX31.out Try.underlying24 spInfo rfl _ rfl rfl ?_)
        | (refine wpList_storeS hR31.out spInfo rfl _ _ rfl rfl (ds := [.int .i64 p, .slice (some ⟨g, 0, none⟩) kk c1]) rfl rfl (one_sp _ _ _ _) ?_; intro w32 hR32 hg32 hz32))
      refine ret_s1 hR32 Try.underlying24 spInfo rfl rfl rfl ?_
      exact ⟨_, rfl, Boos.grownB hO31.out hg32 (by have := HBG.out; omega), hB31.out.grown hg32 hB31.out.size (fun k e => by cases e; omega)⟩
    · intro K hK
      go_simp
      refine hK _ _ ((below_new _ _).mono HG21.out) ?_
      clear hK K
      try simp only [Act.put, List.setIfInBounds_toArray, List.set_cons_zero, List.set_cons_succ]
      obtain ⟨w22, hw22⟩ : ∃ u, w21.alloc (.cells #[.int .i64 0, .slice none 0 0] 24) = u := ⟨_, rfl⟩
      have X22 : Hid (SpBox w22 w21.heap.size 0 (.slice none 0 0)) := hw22 ▸ SBox.new w21 24 [.int .i64 0, .slice none 0 0]
      have hb22 : Below w21.heap.size w21 w22 := hw22 ▸ below_new _ _
      rw [hw22]
      have HB22 : Hid (Below w20.heap.size w20 w22) := HB21.out.trans (hb22.mono HG21.out)
      have HG22 : Hid (w20.heap.size ≤ w22.heap.size) := HB22.out.size
      have E22 : Hid (OwnV w22 w20.heap.size 4 (.slice (some ⟨w20.heap.size, 0, none⟩) 0 0) []) := OwnV.keep E21.out hb22
      have HGE : Hid (w20.heap.size ≤ w22.heap.size) := HG22.out
      have HZZ : Hid (w20.heap.size < w21.heap.size ∧ w21.heap.size < w22.heap.size) := ⟨(World.ownsRow.lt E21.out _ rfl).2, X22.out.lt⟩
      clear hb22 hw22
      refine held_of_sch (R := fun x y => Below w20.heap.size x y) (fun _ => Below.refl _ _) (fun h k => h.trans k) (by kernel_rfl) (fun d v c a w h => by cases d <;> exact h) [(5, true), (6, false), (8, true)] _ _ _ (by kernel_rfl) (by kernel_rfl) ?_
      simp only [sel, List.getElem?_toArray, List.getElem?_cons_succ, List.getElem?_cons_zero]
      refine sch_call rfl ?_
      intro K hK
      obtain ⟨i0, hi0, hz0, hz1, hz2⟩ := HI0.out
      refine wp_appV (.tmp 10) (.tmp 12) _ rfl w20.heap.size 4 1 i0 _ Try.underlying22 hi0 hz0 hz1 hz2 rfl _ [] rfl E22.out _ (booC l) rfl (HV.out.below HB22.out) (booC_one l) (by have := HLEN.out; simp only [booC_len, List.length_nil]; omega) (by have := HLEN.out; simp only [booC_len, List.length_nil, maxLen]; omega) HGE.out ?_
      intro v23 w23 ho hg hat
      have hbn : Below w20.heap.size w22 w23 := (Below.refl _ _).grown hg HG22.out (fun j hj => by have := (World.ownsRow.lt E22.out _ hj).1; have := HG20.out; omega)
      refine hK _ _ hbn ?_
      clear hK K hi0 hz0 hz1 hz2 i0
      try simp only [Act.put, List.setIfInBounds_toArray, List.set_cons_zero, List.set_cons_succ]
      rw [List.nil_append] at ho
      obtain ⟨g, c1, rfl, hBg, hgs, hc1, hc2, _, _⟩ := OwnV.form ho (by rw [booC_len]; have := HN.out; omega)
      rw [booC_len] at ho hc1 ⊢
      rw [← HK.out] at ho hc1 ⊢
      have HB23 : Hid (Below w20.heap.size w20 w23) := HB22.out.trans hbn
      have HG23 : Hid (w20.heap.size ≤ w23.heap.size) := HB23.out.size
      have HO23 : Hid (OwnV w23 w20.heap.size 4 (.slice (some ⟨g, 0, none⟩) kk c1) (booC l)) := ho
      have HGB : Hid (w20.heap.size ≤ g ∧ g < w23.heap.size) := ⟨hBg, hgs⟩
      iterate 1 (refine sch_take ?_ rfl ?_ ?_; rotate_left; (focus (intro u hu; go_simp <;> rfl)); simp only [Act.put, List.setIfInBounds_toArray, List.set_cons_zero, List.set_cons_succ])
      have HNE : Hid (w21.heap.size ≠ g) := fun e9 => by have h1 := HZZ.out; rcases hat with h | h; (have h' : some g = some w20.heap.size := h); (injection h' with h'; omega); (have h' : some g = some w22.heap.size := h); (injection h' with h'; omega)
      have HBX : Hid (w20.heap.size ≤ w21.heap.size) := HG21.out
      have X23 : Hid (SpBox w23 w21.heap.size 0 (.slice none 0 0)) := SBox.grownO' X22.out hg (fun e => by have e' : some w20.heap.size = some w21.heap.size := e; injection e' with e'; have h1 := HZZ.out; omega)
      refine sch_call rfl ?_
      intro K hK
      refine wp_storeS1 X23.out spInfo (.tmp 7) (.tmp 14) rfl rfl (ds := [.int .i64 p, .slice (some ⟨g, 0, none⟩) kk c1]) rfl rfl (one_sp _ _ _ _) ?_
      intro w30 hs hg8 hz8
      have hbn8 : Below w20.heap.size w23 w30 := (Below.refl _ _).grown hg8 HG23.out (fun j e => by cases e; exact HBX.out)
      refine hK _ _ hbn8 ?_
      clear hK K
      try simp only [Act.put, List.setIfInBounds_toArray, List.set_cons_zero, List.set_cons_succ]
      refine sch_nil ?_
      have HX : Hid (SpBox w30 (w21.heap.size) p (.slice (some ⟨g, 0, none⟩) kk c1)) := hs
      have HO : Hid (OwnB w30 w.heap.size (.slice (some ⟨g, 0, none⟩) kk c1) l) := OwnV.lower (World.ownsRow.kept HO23.out hg8 (.inr (by simp [Value.ownBlock]; have := HNE.out; omega))) (by have := HZ.out; have := HGZ.out; omega)
      have HBW : Hid (Below w.heap.size w w30) := HBZ.out.trans ((HB23.out.trans hbn8).mono HBZ.out.size)
      have HR : Hid (SpBox w30 (w.heap.size + 1) 0 (.slice none 0 0)) := SBox.below HR20.out (HB23.out.trans hbn8)
      have HBG : Hid (w.heap.size + 1 < g) := by have := HGB.out; have := HR20.out.lt; have := HGZ.out; show _ < _; omega
      have HBXW : Hid (w.heap.size + 1 < w21.heap.size) := by have := HBX.out; have := HR20.out.lt; show _ < _; omega
      have hca := HX.out.c1
      clear hs hg8 hz8 hbn8
      obtain ⟨bx, hbx⟩ : ∃ bx, bx = w21.heap.size := ⟨_, rfl⟩
      rw [← hbx] at HX hca HNE HBXW ⊢
      clear hbx
      go_wp2_with (first
        | (refine wpList_put1 4 rfl (.tmp 19) (.tmp 18) rfl n (.bool b) rfl rfl rfl boolInfo1 _ (own_cellB HO.out (by have := HN.out; omega)) (own_frozenB HO.out n) ?_; intro w31 hw31
           have hg31 : w30.grownBy w31 (some g) := by rw [hw31]; exact grown_set w30 g n _
           have hO31 : Hid (OwnB w31 w.heap.size (.slice (some ⟨g, 0, none⟩) kk c1) (l.set n b)) := by rw [hw31]; exact own_setB HO.out HK.out.symm n b
           have hX31 : Hid (SpBox w31 bx p (.slice (some ⟨g, 0, none⟩) kk c1)) := HX.out.grown hg31 (by have := HNE.out; omega)
           have hR31 : Hid (SpBox w31 (w.heap.size + 1) 0 (.slice none 0 0)) := HR.out.grown hg31 (by have := HBG.out; omega)
           have hB31 : Hid (Below w.heap.size w w31) := by rw [hw31]; exact HBW.out.setCell (p := ⟨g, n, none⟩) (by show w.heap.size ≤ g; have := HBG.out; omega) _
           clear hw31 hg31 hca)
        | (refine wpList_loadS hX31.out Try.underlying24 spInfo rfl _ rfl rfl ?_)
        | (refine wpList_storeS hR31.out spInfo rfl _ _ rfl rfl (ds := [.int .i64 p, .slice (some ⟨g, 0, none⟩) kk c1]) rfl rfl (one_sp _ _ _ _) ?_; intro w32 hR32 hg32 hz32))
      refine ret_s1 hR32 Try.underlying24 spInfo rfl rfl rfl ?_
      exact ⟨_, rfl, Boos.grownB hO31.out hg32 (by have := HBG.out; omega), hB31.out.grown hg32 hB31.out.size (fun k e => by cases e; omega)⟩
  · intro K hK
    go_simp
    refine hK _ _ ((below_new _ _).mono HG20.out) ?_
    clear hK K
    try simp only [Act.put, List.setIfInBounds_toArray, List.set_cons_zero, List.set_cons_succ]
    obtain ⟨w21, hw21⟩ : ∃ u, w20.alloc (.cells #[.int .i64 0, .slice none 0 0] 24) = u := ⟨_, rfl⟩
    have X21 : Hid (SpBox w21 w20.heap.size 0 (.slice none 0 0)) := hw21 ▸ SBox.new w20 24 [.int .i64 0, .slice none 0 0]
    have hb21 : Below w20.heap.size w20 w21 := hw21 ▸ below_new _ _
    rw [hw21]
    have HB21 : Hid (Below w20.heap.size w20 w21) := HB20.out.trans (hb21.mono HG20.out)
    have HG21 : Hid (w20.heap.size ≤ w21.heap.size) := HB21.out.size
    have HGZ : Hid (w20.heap.size ≤ w21.heap.size) := HG21.out
    clear hb21 hw21
    refine held_of_sch (R := fun x y => Below w20.heap.size x y) (fun _ => Below.refl _ _) (fun h k => h.trans k) (by kernel_rfl) (fun d v c a w h => by cases d <;> exact h) [(2, true), (5, true), (6, false), (8, true)] _ _ _ (by kernel_rfl) (by kernel_rfl) ?_
    simp only [sel, List.getElem?_toArray, List.getElem?_cons_succ, List.getElem?_cons_zero]
    refine sch_call rfl ?_
    intro K hK
    go_simp
    refine hK _ _ ((below_new _ _).mono HG21.out) ?_
    clear hK K
    try simp only [Act.put, List.setIfInBounds_toArray, List.set_cons_zero, List.set_cons_succ]
    obtain ⟨w22, hw22⟩ : ∃ u, w21.alloc (.cells #[] 4) = u := ⟨_, rfl⟩
    have E22 : Hid (OwnV w22 w21.heap.size 4 (.slice (some ⟨w21.heap.size, 0, none⟩) 0 0) []) := hw22 ▸ OwnV.empty w21 4
    have hb22 : Below w21.heap.size w21 w22 := hw22 ▸ below_new _ _
    rw [hw22]
    have HB22 : Hid (Below w20.heap.size w20 w22) := HB21.out.trans (hb22.mono HG21.out)
    have HG22 : Hid (w20.heap.size ≤ w22.heap.size) := HB22.out.size
    have X22 : Hid (SpBox w22 w20.heap.size 0 (.slice none 0 0)) := X21.out.below hb22
    have HGE : Hid (w21.heap.size ≤ w22.heap.size) := hb22.size
    clear hb22 hw22
    refine sch_call rfl ?_
    intro K hK
    obtain ⟨i0, hi0, hz0, hz1, hz2⟩ := HI0.out
    refine wp_appV (.tmp 10) (.tmp 12) _ rfl w21.heap.size 4 1 i0 _ Try.underlying22 hi0 hz0 hz1 hz2 rfl _ [] rfl E22.out _ (booC l) rfl (HV.out.below HB22.out) (booC_one l) (by have := HLEN.out; simp only [booC_len, List.length_nil]; omega) (by have := HLEN.out; simp only [booC_len, List.length_nil, maxLen]; omega) HGE.out ?_
    intro v23 w23 ho hg hat
    have hbn : Below w20.heap.size w22 w23 := (Below.refl _ _).grown hg HG22.out (fun j hj => by have := (World.ownsRow.lt E22.out _ hj).1; have := HG21.out; omega)
    refine hK _ _ hbn ?_
    clear hK K hi0 hz0 hz1 hz2 i0
    try simp only [Act.put, List.setIfInBounds_toArray, List.set_cons_zero, List.set_cons_succ]
    rw [List.nil_append] at ho
    obtain ⟨g, c1, rfl, hBg, hgs, hc1, hc2, _, _⟩ := OwnV.form ho (by rw [booC_len]; have := HN.out; omega)
    rw [booC_len] at ho hc1 ⊢
    rw [← HK.out] at ho hc1 ⊢
    have HB23 : Hid (Below w20.heap.size w20 w23) := HB22.out.trans hbn
    have HG23 : Hid (w20.heap.size ≤ w23.heap.size) := HB23.out.size
    have HO23 : Hid (OwnV w23 w21.heap.size 4 (.slice (some ⟨g, 0, none⟩) kk c1) (booC l)) := ho
    have HGB : Hid (w21.heap.size ≤ g ∧ g < w23.heap.size) := ⟨hBg, hgs⟩
    iterate 1 (refine sch_take ?_ rfl ?_ ?_; rotate_left; (focus (intro u hu; go_simp <;> rfl)); simp only [Act.put, List.setIfInBounds_toArray, List.set_cons_zero, List.set_cons_succ])
    have HNE : Hid (w20.heap.size ≠ g) := by have := HGB.out; have := X21.out.lt; show _ ≠ _; omega
    have HBX : Hid (w20.heap.size ≤ w20.heap.size) := Nat.le_refl _
    have X23 : Hid (SpBox w23 w20.heap.size 0 (.slice none 0 0)) := SBox.grownO' X22.out hg (fun e => by have e' : some w21.heap.size = some w20.heap.size := e; injection e' with e'; have := X21.out.lt; omega)
    refine sch_call rfl ?_
    intro K hK
    refine wp_storeS1 X23.out spInfo (.tmp 7) (.tmp 14) rfl rfl (ds := [.int .i64 p, .slice (some ⟨g, 0, none⟩) kk c1]) rfl rfl (one_sp _ _ _ _) ?_
    intro w30 hs hg8 hz8
    have hbn8 : Below w20.heap.size w23 w30 := (Below.refl _ _).grown hg8 HG23.out (fun j e => by cases e; exact HBX.out)
    refine hK _ _ hbn8 ?_
    clear hK K
    try simp only [Act.put, List.setIfInBounds_toArray, List.set_cons_zero, List.set_cons_succ]
    refine sch_nil ?_
    have HX : Hid (SpBox w30 (w20.heap.size) p (.slice (some ⟨g, 0, none⟩) kk c1)) := hs
    have HO : Hid (OwnB w30 w.heap.size (.slice (some ⟨g, 0, none⟩) kk c1) l) := OwnV.lower (World.ownsRow.kept HO23.out hg8 (.inr (by simp [Value.ownBlock]; have := HNE.out; omega))) (by have := HZ.out; have := HGZ.out; omega)
    have HBW : Hid (Below w.heap.size w w30) := HBZ.out.trans ((HB23.out.trans hbn8).mono HBZ.out.size)
    have HR : Hid (SpBox w30 (w.heap.size + 1) 0 (.slice none 0 0)) := SBox.below HR20.out (HB23.out.trans hbn8)
    have HBG : Hid (w.heap.size + 1 < g) := by have := HGB.out; have := HR20.out.lt; have := HGZ.out; show _ < _; omega
    have HBXW : Hid (w.heap.size + 1 < w20.heap.size) := by have := HBX.out; have := HR20.out.lt; show _ < _; omega
    have hca := HX.out.c1
    clear hs hg8 hz8 hbn8
    obtain ⟨bx, hbx⟩ : ∃ bx, bx = w20.heap.size := ⟨_, rfl⟩
    rw [← hbx] at HX hca HNE HBXW ⊢
    clear hbx
    go_wp2_with (first
      | (refine wpList_put1 4 rfl (.tmp 19) (.tmp 18) rfl n (.bool b) rfl rfl rfl boolInfo1 _ (own_cellB HO.out (by have := HN.out; omega)) (own_frozenB HO.out n) ?_; intro w31 hw31
         have hg31 : w30.grownBy w31 (some g) := by rw [hw31]; exact grown_set w30 g n _
         have hO31 : Hid (OwnB w31 w.heap.size (.slice (some ⟨g, 0, none⟩) kk c1) (l.set n b)) := by rw [hw31]; exact own_setB HO.out HK.out.symm n b
         have hX31 : Hid (SpBox w31 bx p (.slice (some ⟨g, 0, none⟩) kk c1)) := HX.out.grown hg31 (by have := HNE.out; omega)
         have hR31 : Hid (SpBox w31 (w.heap.size + 1) 0 (.slice none 0 0)) := HR.out.grown hg31 (by have := HBG.out; omega)
         have hB31 : Hid (Below w.heap.size w w31) := by rw [hw31]; exact HBW.out.setCell (p := ⟨g, n, none⟩) (by show w.heap.size ≤ g; have := HBG.out; omega) _
         clear hw31 hg31 hca)
      | (refine wpList_loadS hX31.out Try.underlying24 spInfo rfl _ rfl rfl ?_)
      | (refine wpList_storeS hR31.out spInfo rfl _ _ rfl rfl (ds := [.int .i64 p, .slice (some ⟨g, 0, none⟩) kk c1]) rfl rfl (one_sp _ _ _ _) ?_; intro w32 hR32 hg32 hz32))
    refine ret_s1 hR32 Try.underlying24 spInfo rfl rfl rfl ?_
    exact ⟨_, rfl, Boos.grownB hO31.out hg32 (by have := HBG.out; omega), hB31.out.grown hg32 hB31.out.size (fun k e => by cases e; omega)⟩

set_option maxHeartbeats 2000000 in
theorem r8Use_any (w : World) (p : Int) (v : Value) (l : List Bool) (n : Int) (hv : Boos w v l) (hlen : l.length ≤ 70368744177664) :
    Calls Try.prog 20 #[.agg #[.int .i64 p, v], .int .i64 n] w (SpOut w (spUse p l n)) := by
  obtain ⟨w0, hw0, hb0, hz, hA, hR⟩ := two_boxes w p v
  have HCK := Lib.hid (r8check_any w0 p v l (hv.below hb0) hlen)
  have HV := Lib.hid hv
  obtain ⟨A, m, c, rfl, N, hnc, hcm⟩ := hv.form
  have HB0 := Lib.hid hb0
  have HZ := Lib.hid hz
  have HW0 := Lib.hid hw0
  have HA := Lib.hid hA
  have HR := Lib.hid hR
  have HLEN := Lib.hid hlen
  clear hv hlen hb0 hz hw0 hA hR
  unfold spUse
  by_cases hok : spOk p l
  · rw [if_pos hok] at HCK
    by_cases hlo : n < 0
    · rw [if_pos (.inr (.inl hlo))]
      have HOK := Lib.hid hok
      clear hok

      go_enter Try.func20, Try.ntmps20
      go_wp2_with fail
      rw [HW0.out]
      refine (HCK.out).mono ?_
      rintro e w1 ⟨rfl, hb1⟩
      have HA1 : Hid (SpBox w1 w.heap.size p (.slice A m c)) := HA.out.below hb1
      have HR1 : Hid (SpBox w1 (w.heap.size + 1) 0 (.slice none 0 0)) := HR.out.below hb1
      have HBW1 : Hid (Below w.heap.size w w1) := HB0.out.trans (hb1.mono (by rw [HZ.out]; omega))
      have HB1 := Lib.hid hb1
      have ha0 := HA1.out.c0
      have ha1 := HA1.out.c1
      clear hb1
      go_wp2_with (refine wpList_storeS HR1.out spInfo rfl _ _ rfl rfl (ds := [.int .i64 0, .slice none 0 0]) rfl rfl (nil_one 0) ?_; intro w2 hR2 hg2 hz2)
      refine ret_s2 hR2 Try.underlying24 spInfo rfl rfl rfl _ rfl ?_
      exact ⟨_, rfl, OwnV.nil _ _ _, HBW1.out.grown hg2 HBW1.out.size (fun k e => by cases e; omega)⟩
    · by_cases hhi : p ≤ n
      · rw [if_pos (.inr (.inr hhi))]
        have HOK := Lib.hid hok
        clear hok

        go_enter Try.func20, Try.ntmps20
        go_wp2_with fail
        rw [HW0.out]
        refine (HCK.out).mono ?_
        rintro e w1 ⟨rfl, hb1⟩
        have HA1 : Hid (SpBox w1 w.heap.size p (.slice A m c)) := HA.out.below hb1
        have HR1 : Hid (SpBox w1 (w.heap.size + 1) 0 (.slice none 0 0)) := HR.out.below hb1
        have HBW1 : Hid (Below w.heap.size w w1) := HB0.out.trans (hb1.mono (by rw [HZ.out]; omega))
        have HB1 := Lib.hid hb1
        have ha0 := HA1.out.c0
        have ha1 := HA1.out.c1
        clear hb1
        go_wp2_with (refine wpList_storeS HR1.out spInfo rfl _ _ rfl rfl (ds := [.int .i64 0, .slice none 0 0]) rfl rfl (nil_one 0) ?_; intro w2 hR2 hg2 hz2)
        refine ret_s2 hR2 Try.underlying24 spInfo rfl rfl rfl _ rfl ?_
        exact ⟨_, rfl, OwnV.nil _ _ _, HBW1.out.grown hg2 HBW1.out.size (fun k e => by cases e; omega)⟩
      · rw [if_neg (fun h => h.elim (fun h => h hok) (fun h => h.elim hlo hhi))]
        obtain ⟨j, rfl⟩ := Int.eq_ofNat_of_zero_le (show 0 ≤ n by omega)
        rw [Int.toNat_natCast]
        have hl := spOk_len hok
        have hjl : j < l.length := by omega
        have hjm : (j : Int) < (m : Int) := by have := N.out; omega
        have hq : l[j]? = some l[j] := List.getElem?_eq_getElem hjl
        have HCELL : Hid (∀ W, Below w.heap.size w W → ∃ b off, A = some ⟨b, off, none⟩ ∧ b < W.heap.size ∧ W.cell? ⟨b, off + j, none⟩ = some (.bool l[j])) := by
          intro W h
          obtain ⟨b, off, e, hb, hc⟩ := (HV.out.below h).at hjl
          exact ⟨b, off, e, hb, hc j hjl⟩
        have HWI : Hid (∀ W, Below w.heap.size w W → Calls Try.prog 39 #[.agg #[.int .i64 p, .slice A m c], .int .i64 (j : Int), .bool true] W (SpMade W p (l.set j true))) := fun W h => r8with_any W p _ l j true (HV.out.below h) HLEN.out hjl
        have HOK := Lib.hid hok
        have HJ := Lib.hid hjl
        clear hok hl
        generalize hbj : l[j] = bj at *
        rw [hq]
        clear hbj hq hjl
        cases bj with
        | true =>
          rw [if_pos rfl]

          go_enter Try.func20, Try.ntmps20
          go_wp2_with fail
          rw [HW0.out]
          refine (HCK.out).mono ?_
          rintro e w1 ⟨rfl, hb1⟩
          have HA1 : Hid (SpBox w1 w.heap.size p (.slice A m c)) := HA.out.below hb1
          have HR1 : Hid (SpBox w1 (w.heap.size + 1) 0 (.slice none 0 0)) := HR.out.below hb1
          have HBW1 : Hid (Below w.heap.size w w1) := HB0.out.trans (hb1.mono (by rw [HZ.out]; omega))
          have HB1 := Lib.hid hb1
          have ha0 := HA1.out.c0
          have ha1 := HA1.out.c1
          clear hb1
          obtain ⟨bl, off, rfl, hbl, hcell⟩ := HCELL.out w1 HBW1.out
          go_wp2_with (refine wpList_storeS HR1.out spInfo rfl _ _ rfl rfl (ds := [.int .i64 0, .slice none 0 0]) rfl rfl (nil_one 0) ?_; intro w2 hR2 hg2 hz2)
          refine ret_s2 hR2 Try.underlying24 spInfo rfl rfl rfl _ rfl ?_
          exact ⟨_, rfl, OwnV.nil _ _ _, HBW1.out.grown hg2 HBW1.out.size (fun k e => by cases e; omega)⟩
        | false =>
          rw [if_neg (by simp)]

          go_enter Try.func20, Try.ntmps20
          go_wp2_with fail
          rw [HW0.out]
          refine (HCK.out).mono ?_
          rintro e w1 ⟨rfl, hb1⟩
          have HA1 : Hid (SpBox w1 w.heap.size p (.slice A m c)) := HA.out.below hb1
          have HR1 : Hid (SpBox w1 (w.heap.size + 1) 0 (.slice none 0 0)) := HR.out.below hb1
          have HBW1 : Hid (Below w.heap.size w w1) := HB0.out.trans (hb1.mono (by rw [HZ.out]; omega))
          have HB1 := Lib.hid hb1
          have ha0 := HA1.out.c0
          have ha1 := HA1.out.c1
          clear hb1
          obtain ⟨bl, off, rfl, hbl, hcell⟩ := HCELL.out w1 HBW1.out
          go_wp2_with fail
          refine (HWI.out w1 HBW1.out).mono ?_
          rintro e w2 ⟨x, rfl, hx2, hb2⟩
          have HR2 : Hid (SpBox w2 (w.heap.size + 1) 0 (.slice none 0 0)) := HR1.out.below hb2
          have HBW2 : Hid (Below w.heap.size w w2) := HBW1.out.trans (hb2.mono HBW1.out.size)
          obtain ⟨Ax, nx, cx, rfl, NX, _, _⟩ := hx2.boos.form
          have HX2 := Lib.hid hx2
          have HXB : Hid ((Value.slice Ax nx cx).ownBlock ≠ some (w.heap.size + 1)) := fun hk => by have := (World.ownsRow.lt HX2.out _ hk).1; have := HR1.out.lt; omega
          clear hx2 hb2
          go_wp2_with (refine wpList_storeS HR2.out spInfo rfl _ _ rfl rfl (ds := [.int .i64 p, .slice Ax nx cx]) rfl rfl (one_sp p Ax nx cx) ?_; intro w3 hR3 hg3 hz3)
          refine ret_s2 hR3 Try.underlying24 spInfo rfl rfl rfl _ rfl ?_
          exact ⟨_, rfl, OwnV.lower (World.ownsRow.kept HX2.out hg3 (.inr HXB.out)) HBW1.out.size, HBW2.out.grown hg3 HBW2.out.size (fun k e => by cases e; omega)⟩
  · rw [if_pos (.inl hok)]
    rw [if_neg hok] at HCK
    have HOK := Lib.hid hok
    clear hok

    go_enter Try.func20, Try.ntmps20
    go_wp2_with fail
    rw [HW0.out]
    refine (HCK.out).mono ?_
    rintro e w1 ⟨rfl, hb1⟩
    have HA1 : Hid (SpBox w1 w.heap.size p (.slice A m c)) := HA.out.below hb1
    have HR1 : Hid (SpBox w1 (w.heap.size + 1) 0 (.slice none 0 0)) := HR.out.below hb1
    have HBW1 : Hid (Below w.heap.size w w1) := HB0.out.trans (hb1.mono (by rw [HZ.out]; omega))
    have HB1 := Lib.hid hb1
    have ha0 := HA1.out.c0
    have ha1 := HA1.out.c1
    clear hb1
    go_wp2_with (refine wpList_storeS HR1.out spInfo rfl _ _ rfl rfl (ds := [.int .i64 0, .slice none 0 0]) rfl rfl (nil_one 0) ?_; intro w2 hR2 hg2 hz2)
    refine ret_s2 hR2 Try.underlying24 spInfo rfl rfl rfl _ rfl ?_
    exact ⟨_, rfl, OwnV.nil _ _ _, HBW1.out.grown hg2 HBW1.out.size (fun k e => by cases e; omega)⟩
set_option maxHeartbeats 2000000 in
theorem r8Give_any (w : World) (p : Int) (v : Value) (l : List Bool) (n : Int) (hv : Boos w v l) (hlen : l.length ≤ 70368744177664) :
    Calls Try.prog 21 #[.agg #[.int .i64 p, v], .int .i64 n] w (SpOut w (spGive p l n)) := by
  obtain ⟨w0, hw0, hb0, hz, hA, hR⟩ := two_boxes w p v
  have HCK := Lib.hid (r8check_any w0 p v l (hv.below hb0) hlen)
  have HV := Lib.hid hv
  obtain ⟨A, m, c, rfl, N, hnc, hcm⟩ := hv.form
  have HB0 := Lib.hid hb0
  have HZ := Lib.hid hz
  have HW0 := Lib.hid hw0
  have HA := Lib.hid hA
  have HR := Lib.hid hR
  have HLEN := Lib.hid hlen
  clear hv hlen hb0 hz hw0 hA hR
  unfold spGive
  by_cases hok : spOk p l
  · rw [if_pos hok] at HCK
    by_cases hlo : n < 2
    · rw [if_pos (.inr (.inl hlo))]
      have HOK := Lib.hid hok
      clear hok

      go_enter Try.func21, Try.ntmps21
      go_wp2_with fail
      rw [HW0.out]
      refine (HCK.out).mono ?_
      rintro e w1 ⟨rfl, hb1⟩
      have HA1 : Hid (SpBox w1 w.heap.size p (.slice A m c)) := HA.out.below hb1
      have HR1 : Hid (SpBox w1 (w.heap.size + 1) 0 (.slice none 0 0)) := HR.out.below hb1
      have HBW1 : Hid (Below w.heap.size w w1) := HB0.out.trans (hb1.mono (by rw [HZ.out]; omega))
      have HB1 := Lib.hid hb1
      have ha0 := HA1.out.c0
      have ha1 := HA1.out.c1
      clear hb1
      go_wp2_with (refine wpList_storeS HR1.out spInfo rfl _ _ rfl rfl (ds := [.int .i64 0, .slice none 0 0]) rfl rfl (nil_one 0) ?_; intro w2 hR2 hg2 hz2)
      refine ret_s2 hR2 Try.underlying24 spInfo rfl rfl rfl _ rfl ?_
      exact ⟨_, rfl, OwnV.nil _ _ _, HBW1.out.grown hg2 HBW1.out.size (fun k e => by cases e; omega)⟩
    · by_cases hhi : p ≤ n
      · rw [if_pos (.inr (.inr hhi))]
        have HOK := Lib.hid hok
        clear hok

        go_enter Try.func21, Try.ntmps21
        go_wp2_with fail
        rw [HW0.out]
        refine (HCK.out).mono ?_
        rintro e w1 ⟨rfl, hb1⟩
        have HA1 : Hid (SpBox w1 w.heap.size p (.slice A m c)) := HA.out.below hb1
        have HR1 : Hid (SpBox w1 (w.heap.size + 1) 0 (.slice none 0 0)) := HR.out.below hb1
        have HBW1 : Hid (Below w.heap.size w w1) := HB0.out.trans (hb1.mono (by rw [HZ.out]; omega))
        have HB1 := Lib.hid hb1
        have ha0 := HA1.out.c0
        have ha1 := HA1.out.c1
        clear hb1
        go_wp2_with (refine wpList_storeS HR1.out spInfo rfl _ _ rfl rfl (ds := [.int .i64 0, .slice none 0 0]) rfl rfl (nil_one 0) ?_; intro w2 hR2 hg2 hz2)
        refine ret_s2 hR2 Try.underlying24 spInfo rfl rfl rfl _ rfl ?_
        exact ⟨_, rfl, OwnV.nil _ _ _, HBW1.out.grown hg2 HBW1.out.size (fun k e => by cases e; omega)⟩
      · rw [if_neg (fun h => h.elim (fun h => h hok) (fun h => h.elim hlo hhi))]
        obtain ⟨j, rfl⟩ := Int.eq_ofNat_of_zero_le (show 0 ≤ n by omega)
        rw [Int.toNat_natCast]
        have hl := spOk_len hok
        have hjl : j < l.length := by omega
        have hjm : (j : Int) < (m : Int) := by have := N.out; omega
        have hq : l[j]? = some l[j] := List.getElem?_eq_getElem hjl
        have HCELL : Hid (∀ W, Below w.heap.size w W → ∃ b off, A = some ⟨b, off, none⟩ ∧ b < W.heap.size ∧ W.cell? ⟨b, off + j, none⟩ = some (.bool l[j])) := by
          intro W h
          obtain ⟨b, off, e, hb, hc⟩ := (HV.out.below h).at hjl
          exact ⟨b, off, e, hb, hc j hjl⟩
        have HWI : Hid (∀ W, Below w.heap.size w W → Calls Try.prog 39 #[.agg #[.int .i64 p, .slice A m c], .int .i64 (j : Int), .bool false] W (SpMade W p (l.set j false))) := fun W h => r8with_any W p _ l j false (HV.out.below h) HLEN.out hjl
        have HOK := Lib.hid hok
        have HJ := Lib.hid hjl
        clear hok hl
        generalize hbj : l[j] = bj at *
        rw [hq]
        clear hbj hq hjl
        cases bj with
        | false =>
          rw [if_pos rfl]

          go_enter Try.func21, Try.ntmps21
          go_wp2_with fail
          rw [HW0.out]
          refine (HCK.out).mono ?_
          rintro e w1 ⟨rfl, hb1⟩
          have HA1 : Hid (SpBox w1 w.heap.size p (.slice A m c)) := HA.out.below hb1
          have HR1 : Hid (SpBox w1 (w.heap.size + 1) 0 (.slice none 0 0)) := HR.out.below hb1
          have HBW1 : Hid (Below w.heap.size w w1) := HB0.out.trans (hb1.mono (by rw [HZ.out]; omega))
          have HB1 := Lib.hid hb1
          have ha0 := HA1.out.c0
          have ha1 := HA1.out.c1
          clear hb1
          obtain ⟨bl, off, rfl, hbl, hcell⟩ := HCELL.out w1 HBW1.out
          go_wp2_with (refine wpList_storeS HR1.out spInfo rfl _ _ rfl rfl (ds := [.int .i64 0, .slice none 0 0]) rfl rfl (nil_one 0) ?_; intro w2 hR2 hg2 hz2)
          refine ret_s2 hR2 Try.underlying24 spInfo rfl rfl rfl _ rfl ?_
          exact ⟨_, rfl, OwnV.nil _ _ _, HBW1.out.grown hg2 HBW1.out.size (fun k e => by cases e; omega)⟩
        | true =>
          rw [if_neg (by simp)]

          go_enter Try.func21, Try.ntmps21
          go_wp2_with fail
          rw [HW0.out]
          refine (HCK.out).mono ?_
          rintro e w1 ⟨rfl, hb1⟩
          have HA1 : Hid (SpBox w1 w.heap.size p (.slice A m c)) := HA.out.below hb1
          have HR1 : Hid (SpBox w1 (w.heap.size + 1) 0 (.slice none 0 0)) := HR.out.below hb1
          have HBW1 : Hid (Below w.heap.size w w1) := HB0.out.trans (hb1.mono (by rw [HZ.out]; omega))
          have HB1 := Lib.hid hb1
          have ha0 := HA1.out.c0
          have ha1 := HA1.out.c1
          clear hb1
          obtain ⟨bl, off, rfl, hbl, hcell⟩ := HCELL.out w1 HBW1.out
          go_wp2_with fail
          refine (HWI.out w1 HBW1.out).mono ?_
          rintro e w2 ⟨x, rfl, hx2, hb2⟩
          have HR2 : Hid (SpBox w2 (w.heap.size + 1) 0 (.slice none 0 0)) := HR1.out.below hb2
          have HBW2 : Hid (Below w.heap.size w w2) := HBW1.out.trans (hb2.mono HBW1.out.size)
          obtain ⟨Ax, nx, cx, rfl, NX, _, _⟩ := hx2.boos.form
          have HX2 := Lib.hid hx2
          have HXB : Hid ((Value.slice Ax nx cx).ownBlock ≠ some (w.heap.size + 1)) := fun hk => by have := (World.ownsRow.lt HX2.out _ hk).1; have := HR1.out.lt; omega
          clear hx2 hb2
          go_wp2_with (refine wpList_storeS HR2.out spInfo rfl _ _ rfl rfl (ds := [.int .i64 p, .slice Ax nx cx]) rfl rfl (one_sp p Ax nx cx) ?_; intro w3 hR3 hg3 hz3)
          refine ret_s2 hR3 Try.underlying24 spInfo rfl rfl rfl _ rfl ?_
          exact ⟨_, rfl, OwnV.lower (World.ownsRow.kept HX2.out hg3 (.inr HXB.out)) HBW1.out.size, HBW2.out.grown hg3 HBW2.out.size (fun k e => by cases e; omega)⟩
  · rw [if_pos (.inl hok)]
    rw [if_neg hok] at HCK
    have HOK := Lib.hid hok
    clear hok

    go_enter Try.func21, Try.ntmps21
    go_wp2_with fail
    rw [HW0.out]
    refine (HCK.out).mono ?_
    rintro e w1 ⟨rfl, hb1⟩
    have HA1 : Hid (SpBox w1 w.heap.size p (.slice A m c)) := HA.out.below hb1
    have HR1 : Hid (SpBox w1 (w.heap.size + 1) 0 (.slice none 0 0)) := HR.out.below hb1
    have HBW1 : Hid (Below w.heap.size w w1) := HB0.out.trans (hb1.mono (by rw [HZ.out]; omega))
    have HB1 := Lib.hid hb1
    have ha0 := HA1.out.c0
    have ha1 := HA1.out.c1
    clear hb1
    go_wp2_with (refine wpList_storeS HR1.out spInfo rfl _ _ rfl rfl (ds := [.int .i64 0, .slice none 0 0]) rfl rfl (nil_one 0) ?_; intro w2 hR2 hg2 hz2)
    refine ret_s2 hR2 Try.underlying24 spInfo rfl rfl rfl _ rfl ?_
    exact ⟨_, rfl, OwnV.nil _ _ _, HBW1.out.grown hg2 HBW1.out.size (fun k e => by cases e; omega)⟩


end Go.Proofs.Ytncjobeahpjnpaa
