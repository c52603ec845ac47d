/-
  The statement PageNames: the chapter's examples come out as it tells. Conditions: none.
-/
import Derived.Test.YtagchbpofoidmaaDoorPgP
namespace Go.Proofs.YtagchbpofoidmaaDoor.pageNames
open Go.ChangeShapes Go.WideShapes Go.ChangeAt Go.RowKit Go.Maps
set_option maxRecDepth 100000
set_option linter.unusedVariables false

theorem zs_bad : ¬ okB (zsB 4096) := fun h => by
  have := h.1.2
  rw [show zsB 4096 = 0 :: zsB 4095 from rfl] at this
  simp at this
theorem load17 : loadP (newS 17) 2 = ([], 2, newS 17) := by unfold loadP; rw [secs_new]; rfl
theorem save17 : saveP (newS 17) 0 [] = (2, newS 17) := by unfold saveP; rw [if_neg (fun h => by have := h.2; simp at this)]
theorem pages17 : secs (newS 17) / 8 = 2 := by rw [secs_new]
set_option maxRecDepth 100000 in
set_option maxHeartbeats 4000000 in
theorem walk (w : World) : Calls Tryd.prog 3 #[] w fun e w' => e = .returned (.bool true) ∧ Below w.heap.size w w' := by
  obtain ⟨i0, hi0, hz0, hz1, hz2⟩ := info_parts uinfo
  go_enter Tryd.func3, Tryd.ntmps3
  go_wp2_with fail
  refine (bytes_bad w 8 0 (.slice none 0 0) [] (Byt.nil w) (by omega)).mono ?_
  rintro e w1 ⟨rfl, hb1⟩
  have HB1 := Lib.hid hb1
  clear hb1
  go_wp2_with (at_make; refine wpList_make_full _ rfl _ _ 22 rfl w1.heap.size 5 i0 _ 1 Tryd.underlying22 hi0 hz0 hz1 _ _ _ _ 4081 rfl rfl rfl rfl (by rw [hz2]; omega) (by simp only [maxLen]; omega) (Nat.le_refl _) ?_; intro wm hownm hgm)
  have ho2 : Own wm w1.heap.size 5 (.slice (some ⟨w1.heap.size, 0, none⟩) 4081 4081) (zsB 4081) := own_zeros hownm
  have hbm := below_none hgm
  have HB2 := Lib.hid (HB1.out.trans (hbm.mono HB1.out.size))
  refine (bytes_bad wm 1 0 _ (zsB 4081) ho2.byt (by rw [zsB_len]; omega)).mono ?_
  rintro e w3 ⟨rfl, hb3⟩
  have HB3 := Lib.hid (HB2.out.trans (hb3.mono HB2.out.size))
  clear hb3 hbm ho2 hownm hgm HB1 HB2
  go_wp2_with (at_make; refine wpList_make_full _ rfl _ _ 22 rfl w3.heap.size 5 i0 _ 1 Tryd.underlying22 hi0 hz0 hz1 _ _ _ _ 4096 rfl rfl rfl rfl (by rw [hz2]; omega) (by simp only [maxLen]; omega) (Nat.le_refl _) ?_; intro wm hownm hgm)
  have ho4 : Own wm w3.heap.size 5 (.slice (some ⟨w3.heap.size, 0, none⟩) 4096 4096) (zsB 4096) := own_zeros hownm
  have hbm := below_none hgm
  have HB4 := Lib.hid (HB3.out.trans (hbm.mono HB3.out.size))
  refine (read_bad wm _ (zsB 4096) ho4.byt zs_bad).mono ?_
  rintro e w5 ⟨rfl, hb5⟩
  have HB5 := Lib.hid (HB4.out.trans (hb5.mono HB4.out.size))
  obtain ⟨w6, hw6⟩ : ∃ w6, w5.alloc (.cells (pageV 0 0 (.slice none 0 0)) 28) = w6 := ⟨_, rfl⟩
  have hb6 : Below w5.heap.size w5 w6 := hw6 ▸ below_new w5 _
  have HB6 := Lib.hid (HB5.out.trans (hb6.mono HB5.out.size))
  have HW6 := Lib.hid hw6
  unfold pageV at HW6 ⊢
  clear hw6 hb6 hb5 hbm ho4 hownm hgm HB3 HB4 HB5
  go_wp2_with fail
  rw [HW6.out]
  refine (load_nil w6 0).mono ?_
  rintro e w7 ⟨rfl, hb7⟩
  have HB7 := Lib.hid (HB6.out.trans (hb7.mono HB6.out.size))
  clear hb7 HW6
  go_wp2_with fail
  refine (snew_any w7 17 (by omega) (by omega)).mono ?_
  rintro e w8 ⟨g, rfl, hdk8, hb8⟩
  have HB8 := Lib.hid (HB7.out.trans (hb8.mono HB7.out.size))
  obtain ⟨S, hS⟩ : ∃ S : Nat → Prop, S = fun k => w7.heap.size ≤ k ∧ k < w8.heap.size := ⟨_, rfl⟩
  rw [← hS] at hdk8
  have HS : Hid (∀ k, S k → w.heap.size ≤ k) := fun k hk => by rw [hS] at hk; have := HB7.out.size; omega
  have HD8 := Lib.hid hdk8
  have HLD := Lib.hid (load_is w8 S g _ 2 hdk8)
  rw [load17] at HLD
  clear hdk8 hb8 hS
  go_wp2_with fail
  refine HLD.out.mono ?_
  rintro e w9 ⟨v9, rfl, hown9, hdk9, ht9⟩
  have HD9 := Lib.hid hdk9
  have HB9 := Lib.hid (HB8.out.trans (ht9.below HB8.out.size HS.out))
  clear hown9 hdk9 ht9
  go_wp2_with fail
  refine (lives5_any w9).mono ?_
  rintro e w10 ⟨rfl, hb10⟩
  have HD10 := Lib.hid (HD9.out.below hb10)
  have HB10 := Lib.hid (HB9.out.trans (hb10.mono HB9.out.size))
  clear hb10
  go_wp2_with fail
  refine (save_nil w10 0 (.slice none 0 0) [] (Byt.nil w10)).mono ?_
  rintro e w11 ⟨rfl, hb11⟩
  have HD11 := Lib.hid (HD10.out.below hb11)
  have HB11 := Lib.hid (HB10.out.trans (hb11.mono HB10.out.size))
  have HSV := Lib.hid (save_is w11 S g _ 0 (.slice none 0 0) [] HD11.out (Byt.nil w11) (fun k e => by cases e) (fun k e => by cases e))
  rw [save17] at HSV
  clear hb11
  go_wp2_with fail
  refine HSV.out.mono ?_
  rintro e w12 ⟨rfl, hdk12, ht12⟩
  have HB12 := Lib.hid (HB11.out.trans (ht12.below HB11.out.size HS.out))
  have HP := Lib.hid (pages_is w12 _ g _ hdk12)
  rw [pages17] at HP
  clear hdk12 ht12
  go_wp2_with fail
  refine HP.out.mono ?_
  rintro e w13 ⟨rfl, rfl⟩
  go_wp2_with fail
  refine (pages_nil _).mono ?_
  rintro e w14 ⟨rfl, rfl⟩
  go_wp2_with fail
  go_ret
  exact ⟨rfl, HB12.out⟩

set_option maxRecDepth 100000 in
theorem lifted (os : Os) (started : os.Started) (H : Type) (enc : TypeId × Value → H) :
    ReturnsInHanded {} Tryd.checked os 3 .any (fun w args => (Rows.pageNamesSpec.pre enc Tryd.prog Tryd.f3 Rows.pageNamesRow.domain false w args ∧ laidMetH Tryd.prog Rows.pageNamesRow.laid w) ∧ sizedMet enc Tryd.prog Tryd.f3 (OpenSpec.ofChange Rows.pageNamesSpec) false w args) (Rows.pageNamesSpec.post enc Tryd.prog Tryd.f3 false true false false) := by
  refine returnsInHanded_of_change_and (C := Tryd.checked) (X := fun w _ => laidMetH Tryd.prog Rows.pageNamesRow.laid w) (fun _ _ _ hh h => h.of_heap hh) ownKnobs started (by kernel_rfl) Tryd.func3
    (ChangeSpec.witness_shaped (enc := enc) (C := Tryd.checked) (os := os) (X := fun w _ => laidMetH Tryd.prog Rows.pageNamesRow.laid w) false (World.laidAll Tryd.prog os Rows.pageNamesRow.laid) #[] 8 (World.laidAll_os _ _ _)
      (World.shaped_of_ZipB (by kernel_rfl) (by kernel_rfl)) (by kernel_rfl) (by kernel_rfl) (by kernel_rfl)
      (by rw [MakeChecks.laidMetH_plain _ _ _ (by kernel_rfl)]; exact laidMet_laidAll _ (by kernel_rfl) (by kernel_rfl))) ?_
  intro W base args ds gs before hval0 hW hcnd _ _ _
  have hval : ∀ (j : Nat) t v, Tryd.f3.params[j]? = some t → args[j]? = some v → Value.okWide Tryd.prog W .any base t v := hval0
  have hW' := hW
  obtain ⟨p, q, hA0, hV, rfl, hfz, hnd⟩ := hW
  have hA : DataW.TrodAll enc Tryd.prog W 0 (fun _ => true) true Tryd.f3.params.toList args.toList ds p := hA0
  rw [Tryd.params3] at hA hval
  obtain ⟨rfl, rfl, rfl⟩ := trodAll_none hA
  obtain ⟨rfl, rfl⟩ := trodVars_none hV
  clear hA0 hval0
  refine (walk W ).mono fun e W' ⟨he, bel⟩ => ?_
  subst he
  exact ⟨_, rfl, _, _, _, [], _, [], hW', trodAll_mk1 (shut_bool Tryd.underlying4 _), trodAll_mk0, rfl, bel.frame _, fun h => by cases h⟩

theorem over : Rows.pageNamesRow.holds Tryd.pinned (OpenSpec.ofChange Rows.pageNamesSpec) :=
  OpenClaim.holds_of_wide 3 Tryd.f3 rfl rfl rfl rfl rfl rfl rfl ⟨rfl, rfl, rfl, rfl, rfl⟩ rfl rfl rfl rfl rfl (by kernel_rfl) Tryd.func3 (by kernel_rfl)
    (of_decide_eq_true (by kernel_rfl)) (by unfold Func.isWrapper; first | (rw [if_pos (by decide +kernel)]; kernel_rfl) | (rw [if_neg (by decide +kernel)]; exact ⟨rfl, rfl⟩))
    (fun os started H enc _ => lifted os started H enc)

theorem proved : Rows.PageNamesCardSaid :=
  Claim7.holds_tied_plain_at .later [] [.data, .pinned] true Rows.pageNamesCard.stood.harness false over (fun _ h => by cases h) (by kernel_rfl) (fun _ h => by cases h) pageNames_row_tie rfl ⟨rfl, rfl⟩ (by kernel_rfl) rfl
    (fun f fn hf hfn => by
      obtain rfl : f = 3 := Option.some.inj ((show Tryd.prog.funcNamed "tallyman/tallymanlaw05.PageNames" = some 3 by kernel_rfl).symm.trans hf) |>.symm
      obtain rfl : fn = Tryd.f3 := (Option.some.inj (Tryd.func3.symm.trans hfn)).symm
      exact ⟨by kernel_rfl, fun j t ht => by
        rw [Tryd.params3] at ht
        have hm : t ∈ [] := by simpa using Array.mem_of_getElem? ht
        have hall : ([].all fun u => !Tryd.prog.wantsStandIn u) = true := by kernel_rfl
        exact (show Tryd.prog.wantsStandIn t = false by simpa using List.all_eq_true.1 hall t hm)⟩)
    (by kernel_rfl)
#print axioms proved
end Go.Proofs.YtagchbpofoidmaaDoor.pageNames
