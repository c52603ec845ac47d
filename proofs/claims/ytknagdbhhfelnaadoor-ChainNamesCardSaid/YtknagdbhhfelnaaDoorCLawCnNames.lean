/-
  The statement ChainNames: the chapter's examples come out as it tells. Conditions: none.
-/
import Derived.Test.YtknagdbhhfelnaaDoorCCnM
import Derived.Test.YtknagdbhhfelnaaDoorMg5
namespace Go.Proofs.YtknagdbhhfelnaaDoor.chainNames
open Go.ChangeShapes Go.WideShapes Go.ChangeAt Go.RowKit Go.Maps
set_option maxRecDepth 100000
set_option linter.unusedVariables false

set_option maxRecDepth 100000 in
set_option maxHeartbeats 8000000 in
theorem walk (w : World) : Calls Tryd.prog 3 #[] w fun e w' => e = .returned (.bool true) ∧ Below w.heap.size w w' := by
  obtain ⟨i0, hi0, hz0, hz1, hz2⟩ := info_parts iinfo
  obtain ⟨i1, hi1, hy0, hy1, hy2⟩ := info_parts uinfo
  go_enter Tryd.func3, Tryd.ntmps3
  go_wp2_with fail
  refine (cpages_bad _ 4 _ 1 1 _ [2] [] (Rowz.litV w [.int .i64 2] 3 (by simp [maxLen])) (Byt.nil _) (by decide) (by decide) (by decide) (fun h => by have := h.1; revert this; decide)).mono ?_
  rintro e w1 ⟨rfl, hb1⟩
  have HB1 : Hid (Below w.heap.size w w1) := (below_new w _).trans (hb1.mono (by simp))
  clear hb1
  go_wp2_with (first
    | (at_make; refine wpList_make_full _ rfl _ _ 27 rfl w.heap.size 5 i1 _ 1 Tryd.underlying27 hi1 hy0 hy1 _ _ _ _ 5000 rfl rfl rfl rfl (by rw [hy2]; omega) (by simp only [maxLen]; omega) (by have := HB1.out.size; simp; omega) ?_; intro w2 hown2 hg2
       have hb2 : Below w1.heap.size w1 w2 := (below_new w1 _).trans ((below_none hg2).mono (by simp))
       have HB2 : Hid (Below w.heap.size w w2) := HB1.out.trans (hb2.mono HB1.out.size)
       have HR2 : Hid (Rowz w2 (.slice (some ⟨w1.heap.size, 0, none⟩) 2 2) (natC [2, 2])) := (Rowz.litV w1 [.int .i64 2, .int .i64 2] 3 (by simp [maxLen])).below (below_none hg2)
       have ho2 := own_zeros hown2
       rw [World.size_alloc] at ho2
       have HO2 := Lib.hid ho2
       clear hown2 hg2 hb2 ho2))
  refine (cpages_bad w2 7 _ 2 2 _ [2, 2] (zsB 5000) HR2.out HO2.out.byt (by decide) (by decide) (by rw [zsB_len]; omega) (fun h => by have := h.2.2; revert this; decide)).mono ?_
  rintro e w3 ⟨rfl, hb3⟩
  have HB3 : Hid (Below w.heap.size w w3) := HB2.out.trans (hb3.mono HB2.out.size)
  clear hb3
  go_wp2_with fail
  refine (cread_nil w3 7 2 9).mono ?_
  rintro e w4 ⟨rfl, hb4⟩
  have HB4 : Hid (Below w.heap.size w w4) := HB3.out.trans (hb4.mono HB3.out.size)
  clear hb4
  go_wp2_with fail
  refine (snew_any w4 64 (by omega) (by omega)).mono ?_
  rintro e w5 ⟨d, rfl, hd5, hb5⟩
  have HD5 := Lib.hid hd5
  have HB5 := Lib.hid hb5
  clear hd5 hb5
  go_wp2_with fail
  refine (pnew_is w5 _ d (newS 64) 8 HD5.out (by rw [secs_new]; omega) (by omega) (by omega)).mono ?_
  rintro e w6 ⟨p, fb, rfl, hp6, hb6⟩
  obtain ⟨T, hpt, hT⟩ := plt_new (n := 8) (by omega) (by omega) hp6 HB5.out.size
  have HPT := Lib.hid hpt
  have HT : Hid (∀ k, T k → w.heap.size ≤ k) := fun k hk => Nat.le_trans HB4.out.size (hT k hk)
  have HB6 : Hid (Below w.heap.size w w6) := HB4.out.trans ((HB5.out.mono HB4.out.size).trans (hb6.mono (Nat.le_trans HB4.out.size HB5.out.size)))
  clear hp6 hb6 hpt hT
  go_wp2_with fail
  refine (cread_is w6 T p d fb 8 8 _ 7 2 9 HPT.out (.inr (.inr rfl)) (by omega) (by omega) ((Sane.zero 8).closed 7) (by omega)).mono ?_
  intro e w7 ho7
  obtain ⟨T7, hpt7, hT7, _, _, hb7, hend⟩ := ho7.own (B := w.heap.size) HB6.out.size HT.out
  rw [read_zero 7 9 2 (by omega) _ rfl] at hend
  obtain rfl : e = .returned (.tuple #[.slice none 0 0, .slice none 0 0, .int .i64 4]) := hend
  have HPT7 := Lib.hid hpt7
  have HB7 : Hid (Below w.heap.size w w7) := HB6.out.trans hb7
  clear ho7 hpt7 hT7 hb7
  go_wp2_with fail
  refine (cread_low HPT7.out 7 (.inr (.inr rfl)) 1 9 (by omega)).mono ?_
  rintro e w8 ⟨rfl, hb8⟩
  have HB8 : Hid (Below w.heap.size w w8) := HB7.out.trans (hb8.mono HB7.out.size)
  clear hb8
  go_wp2_with fail
  refine (lives9_any w8).mono ?_
  rintro e w9 ⟨rfl, hb9⟩
  have HB9 : Hid (Below w.heap.size w w9) := HB8.out.trans (hb9.mono HB8.out.size)
  clear hb9
  go_wp2_with fail
  refine (cwrite_nil _ 7 _ _).mono ?_
  rintro e w10 ⟨rfl, hb10⟩
  have HB10 : Hid (Below w.heap.size w w10) := (HB9.out.alloc HB9.out.size _).trans (hb10.mono (by have := HB9.out.size; simp; omega))
  clear hb10
  go_wp2_with fail
  refine (cneed_any w10 (-5) (by omega)).mono ?_
  rintro e w11 ⟨rfl, rfl⟩
  rw [show needI (-5) = 1 from rfl]
  go_wp2_with fail
  go_ret
  exact ⟨rfl, HB10.out⟩

set_option maxRecDepth 100000 in
theorem lifted (os : Os) (started : os.Started) (H : Type) (enc : TypeId × Value → H) :
    ReturnsInHanded {} Tryd.checked os 3 .any (fun w args => (Rows.chainNamesSpec.pre enc Tryd.prog Tryd.f3 Rows.chainNamesRow.domain false w args ∧ laidMetH Tryd.prog Rows.chainNamesRow.laid w) ∧ sizedMet enc Tryd.prog Tryd.f3 (OpenSpec.ofChange Rows.chainNamesSpec) false w args) (Rows.chainNamesSpec.post enc Tryd.prog Tryd.f3 false true false false) := by
  refine returnsInHanded_of_change_and (C := Tryd.checked) (X := fun w _ => laidMetH Tryd.prog Rows.chainNamesRow.laid w) (fun _ _ _ hh h => h.of_heap hh) ownKnobs started (by kernel_rfl) Tryd.func3
    (ChangeSpec.witness_shaped (enc := enc) (C := Tryd.checked) (os := os) (X := fun w _ => laidMetH Tryd.prog Rows.chainNamesRow.laid w) false (World.laidAll Tryd.prog os Rows.chainNamesRow.laid) #[] 8 (World.laidAll_os _ _ _)
      (World.shaped_of_ZipB (by kernel_rfl) (by kernel_rfl)) (by kernel_rfl) (by kernel_rfl) (by kernel_rfl)
      (by rw [MakeChecks.laidMetH_plain _ _ _ (by kernel_rfl)]; exact laidMet_laidAll _ (by kernel_rfl) (by kernel_rfl))) ?_
  intro W base args ds gs before hval0 hW hcnd _ _ _
  have hval : ∀ (j : Nat) t v, Tryd.f3.params[j]? = some t → args[j]? = some v → Value.okWide Tryd.prog W .any base t v := hval0
  have hW' := hW
  obtain ⟨p, q, hA0, hV, rfl, hfz, hnd⟩ := hW
  have hA : DataW.TrodAll enc Tryd.prog W 0 (fun _ => true) true Tryd.f3.params.toList args.toList ds p := hA0
  rw [Tryd.params3] at hA hval
  obtain ⟨rfl, rfl, rfl⟩ := trodAll_none hA
  obtain ⟨rfl, rfl⟩ := trodVars_none hV
  clear hA0 hval0
  refine (walk W ).mono fun e W' ⟨he, bel⟩ => ?_
  subst he
  exact ⟨_, rfl, _, _, _, [], _, [], hW', trodAll_mk1 (shut_bool Tryd.underlying4 _), trodAll_mk0, rfl, bel.frame _, fun h => by cases h⟩

theorem over : Rows.chainNamesRow.holds Tryd.pinned (OpenSpec.ofChange Rows.chainNamesSpec) :=
  OpenClaim.holds_of_wide 3 Tryd.f3 rfl rfl rfl rfl rfl rfl rfl ⟨rfl, rfl, rfl, rfl, rfl⟩ rfl rfl rfl rfl rfl (by kernel_rfl) Tryd.func3 (by kernel_rfl)
    (of_decide_eq_true (by kernel_rfl)) (by unfold Func.isWrapper; first | (rw [if_pos (by decide +kernel)]; kernel_rfl) | (rw [if_neg (by decide +kernel)]; exact ⟨rfl, rfl⟩))
    (fun os started H enc _ => lifted os started H enc)

theorem proved : Rows.ChainNamesCardSaid :=
  Claim7.holds_tied_plain_at .later [] [.data, .pinned] true Rows.chainNamesCard.stood.harness false over (fun _ h => by cases h) (by kernel_rfl) (fun _ h => by cases h) chainNames_row_tie rfl ⟨rfl, rfl⟩ (by kernel_rfl) rfl
    (fun f fn hf hfn => by
      obtain rfl : f = 3 := Option.some.inj ((show Tryd.prog.funcNamed "tallyman/tallymanlaw09.ChainNames" = some 3 by kernel_rfl).symm.trans hf) |>.symm
      obtain rfl : fn = Tryd.f3 := (Option.some.inj (Tryd.func3.symm.trans hfn)).symm
      exact ⟨by kernel_rfl, fun j t ht => by
        rw [Tryd.params3] at ht
        have hm : t ∈ [] := by simpa using Array.mem_of_getElem? ht
        have hall : ([].all fun u => !Tryd.prog.wantsStandIn u) = true := by kernel_rfl
        exact (show Tryd.prog.wantsStandIn t = false by simpa using List.all_eq_true.1 hall t hm)⟩)
    (by kernel_rfl)
#print axioms proved
end Go.Proofs.YtknagdbhhfelnaaDoor.chainNames

