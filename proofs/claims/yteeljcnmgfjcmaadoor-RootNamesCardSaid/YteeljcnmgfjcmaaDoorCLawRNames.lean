/-
  The statement RootNames: the chapter's examples come out as it tells. Conditions: none.
-/
import Derived.Test.YteeljcnmgfjcmaaDoorMg9
namespace Go.Proofs.YteeljcnmgfjcmaaDoor.rootNames
open Go.ChangeShapes Go.WideShapes Go.ChangeAt Go.RowKit Go.Maps
set_option maxRecDepth 100000
set_option linter.unusedVariables false

def rA : Rt := ⟨1, 8, 1, 0, 0, 0, 0, 0, 0⟩
def rB : Rt := ⟨1, 8, 0, 7, 0, 0, 0, 0, 0⟩
set_option maxRecDepth 100000 in
set_option maxHeartbeats 40000000 in
theorem walk (w : World) : Calls Tryd.prog 3 #[] w fun e w' => e = .returned (.bool true) ∧ Below w.heap.size w w' := by
  have Z := rtZero
  have C63 : Hid (∀ w, Calls Tryd.prog 11 #[.int .i64 63] w (Disked w (newS 63))) := fun w => snew_any w 63 (by omega) (by omega)
  have C72 : Hid (∀ w, Calls Tryd.prog 11 #[.int .i64 72] w (Disked w (newS 72))) := fun w => snew_any w 72 (by omega) (by omega)
  have B0 : Hid (∀ w, Calls Tryd.prog 8 #[.agg (rtV zeroR)] w (Refused w 2)) := fun w => rbytes_bad w zeroR (by decide)
  have R0 : Hid (∀ w, Calls Tryd.prog 9 #[.slice none 0 0] w (RtN w zeroR 4)) := fun w => rread_not w _ [] (Byt.nil w) (fun h => by have := h.1.1; simp at this)
  have F0 : Hid (∀ w, Calls Tryd.prog 10 #[.pointer none] w (RtN w zeroR 1)) := fun w => rfind_nil w
  have F1 : Hid (∀ w S g, Dsk w S g (newS 63) → Calls Tryd.prog 10 #[.pointer (some ⟨g, 0, none⟩)] w (FindE w S g (zeroR, 2, newS 63))) := fun w S g h => rfind_arg w S g _ h (by rw [secs_new]; omega)
  have O1 : Hid (∀ w, Calls Tryd.prog 14 #[.int .u64 1] w (OfE w 1)) := fun w => of_any w 1
  have O7 : Hid (∀ w, Calls Tryd.prog 14 #[.int .u64 7] w (OfE w 7)) := fun w => of_any w 7
  have W0 : Hid (∀ w, Calls Tryd.prog 13 #[.pointer none, .agg (rtV (ofR 1))] w (IntE w 1)) := fun w => rwrite_nil w _
  have W1 : Hid (∀ w S g, Dsk w S g (newS 72) → Calls Tryd.prog 13 #[.pointer (some ⟨g, 0, none⟩), .agg (rtV (ofR 1))] w (Done w S g (2, newS 72))) := fun w S g h => by
    have := rwrite_is w S g _ (ofR 1) h (ofR_wf (by omega))
    rwa [show writeP (newS 72) (ofR 1) = (2, newS 72) from by unfold writeP; rw [if_pos ofR_ok1, if_neg (by rw [secs_new]; decide)]] at this
  have S7 : Hid (∀ w, Calls Tryd.prog 15 #[.agg (rtV (ofR 7))] w fun e w' => e = .returned (.int .i64 1) ∧ Below w.heap.size w w') := fun w => rslot_any w (ofR 7)
  have KA : Hid (∀ w, Calls Tryd.prog 16 #[.agg #[.int .u64 1, .int .u64 8, .int .u64 1, .int .u64 0, .int .u64 0, .int .u64 0, .int .u64 0, .int .u64 0, .int .u64 0]] w (IntE w 2)) := fun w => (show checkN rA = 2 from if_neg (by decide)) ▸ check_any w rA
  have KB : Hid (∀ w, Calls Tryd.prog 16 #[.agg #[.int .u64 1, .int .u64 8, .int .u64 0, .int .u64 7, .int .u64 0, .int .u64 0, .int .u64 0, .int .u64 0, .int .u64 0]] w (IntE w 0)) := fun w => (show checkN rB = 0 from if_pos (by decide)) ▸ check_any w rB
  have BW : Hid (Below w.heap.size w w) := Below.refl _ _
  unfold OfE at O1 O7
  generalize newS 63 = s63 at *
  generalize newS 72 = s72 at *
  generalize ofR 1 = r1 at *
  generalize ofR 7 = r7 at *
  go_enter Tryd.func3, Tryd.ntmps3
  go_wp2_with fail
  refine (B0.out _).mono ?_
  rintro e w1 ⟨rfl, hb⟩
  have B1 := Lib.hid (BW.out.trans (hb.mono BW.out.size))
  clear hb BW
  go_wp2_with fail
  refine (R0.out _).mono ?_
  rintro e w2 ⟨rfl, hb⟩
  have B2 := Lib.hid (B1.out.trans (hb.mono B1.out.size))
  clear hb B1
  go_wp2_with (with_reducible (show wpList _ _ _ (⟨_, Op.store 29 _ _, _, _, _, _⟩ :: _) _ _); refine wpList_storeNewRt zeroR zeroR rfl _ _ rfl rfl rfl ?_; intro v3 hx hbx hlx; clear hx)
  have B3 := Lib.hid (B2.out.trans (hbx.mono B2.out.size))
  clear hbx hlx B2
  refine (F0.out _).mono ?_
  rintro e w4 ⟨rfl, hb⟩
  have B4 := Lib.hid (B3.out.trans (hb.mono B3.out.size))
  clear hb
  clear B3
  go_wp2_with (with_reducible (show wpList _ _ _ (⟨_, Op.store 29 _ _, _, _, _, _⟩ :: _) _ _); refine wpList_storeNewRt zeroR zeroR rfl _ _ rfl rfl rfl ?_; intro v5 hx hbx hlx; clear hx)
  have B5 := Lib.hid (B4.out.trans (hbx.mono B4.out.size))
  clear hbx hlx B4
  refine (C63.out _).mono ?_
  rintro e w6 ⟨g, rfl, hd, hb⟩
  have B6 := Lib.hid (B5.out.trans (hb.mono B5.out.size))
  obtain ⟨S5, D5, L5⟩ : ∃ S5, Hid (Dsk w6 S5 g s63) ∧ Hid (∀ k, S5 k → w.heap.size ≤ k) := ⟨_, hd, fun k hk => Nat.le_trans B5.out.size hk.1⟩
  clear hd hb
  clear B5
  go_wp2_with fail
  refine (F1.out _ S5 g D5.out).mono ?_
  rintro e w7 ⟨rfl, _, ht⟩
  have B7 := Lib.hid (B6.out.trans (ht.below B6.out.size L5.out))
  clear ht B6 D5 L5
  go_wp2_with (with_reducible (show wpList _ _ _ (⟨_, Op.store 29 _ _, _, _, _, _⟩ :: _) _ _); refine wpList_storeNewRt zeroR zeroR rfl _ _ rfl rfl rfl ?_; intro v8 hx hbx hlx; clear hx)
  have B8 := Lib.hid (B7.out.trans (hbx.mono B7.out.size))
  clear hbx hlx B7
  refine (C72.out _).mono ?_
  rintro e w9 ⟨g2, rfl, hd, hb⟩
  have B9 := Lib.hid (B8.out.trans (hb.mono B8.out.size))
  obtain ⟨S9, D9, L9⟩ : ∃ S9, Hid (Dsk w9 S9 g2 s72) ∧ Hid (∀ k, S9 k → w.heap.size ≤ k) := ⟨_, hd, fun k hk => Nat.le_trans B8.out.size hk.1⟩
  clear hd hb
  clear B8
  go_wp2_with fail
  refine (lives6_any _).mono ?_
  rintro e w10 ⟨rfl, hb⟩
  have B10 := Lib.hid (B9.out.trans (hb.mono B9.out.size))
  have D10 := Lib.hid (D9.out.below hb)
  clear D9
  clear hb B9
  go_wp2_with fail
  refine (O1.out _).mono ?_
  rintro e w11 ⟨rfl, hb⟩
  have B11 := Lib.hid (B10.out.trans (hb.mono B10.out.size))
  have D11 := Lib.hid (D10.out.below hb)
  clear D10
  clear hb B10
  go_wp2_with fail
  refine (W0.out _).mono ?_
  rintro e w12 ⟨rfl, hb⟩
  have B12 := Lib.hid (B11.out.trans (hb.mono B11.out.size))
  have D12 := Lib.hid (D11.out.below hb)
  clear D11
  clear hb B11
  go_wp2_with fail
  refine (O1.out _).mono ?_
  rintro e w13 ⟨rfl, hb⟩
  have B13 := Lib.hid (B12.out.trans (hb.mono B12.out.size))
  have D13 := Lib.hid (D12.out.below hb)
  clear D12
  clear hb B12
  go_wp2_with fail
  refine (W1.out _ S9 g2 D13.out).mono ?_
  rintro e w14 ⟨rfl, _, ht⟩
  have B14 := Lib.hid (B13.out.trans (ht.below B13.out.size L9.out))
  clear ht B13 D13 L9
  go_wp2_with fail
  refine (O7.out _).mono ?_
  rintro e w15 ⟨rfl, hb⟩
  have B15 := Lib.hid (B14.out.trans (hb.mono B14.out.size))
  clear hb B14
  go_wp2_with fail
  refine (S7.out _).mono ?_
  rintro e w16 ⟨rfl, hb⟩
  have B16 := Lib.hid (B15.out.trans (hb.mono B15.out.size))
  clear hb B15
  go_wp2_with fail
  refine (KA.out _).mono ?_
  rintro e w17 ⟨rfl, hb⟩
  have B17 := Lib.hid (B16.out.trans (hb.mono B16.out.size))
  clear hb B16
  go_wp2_with fail
  refine (KB.out _).mono ?_
  rintro e w18 ⟨rfl, hb⟩
  have B18 := Lib.hid (B17.out.trans (hb.mono B17.out.size))
  clear hb B17
  go_wp2_with fail
  go_ret
  exact ⟨rfl, B18.out⟩

set_option maxRecDepth 100000 in
theorem lifted (os : Os) (started : os.Started) (H : Type) (enc : TypeId × Value → H) :
    ReturnsInHanded {} Tryd.checked os 3 .any (fun w args => (Rows.rootNamesSpec.pre enc Tryd.prog Tryd.f3 Rows.rootNamesRow.domain false w args ∧ laidMetH Tryd.prog Rows.rootNamesRow.laid w) ∧ sizedMet enc Tryd.prog Tryd.f3 (OpenSpec.ofChange Rows.rootNamesSpec) false w args) (Rows.rootNamesSpec.post enc Tryd.prog Tryd.f3 false true false false) := by
  refine returnsInHanded_of_change_and (C := Tryd.checked) (X := fun w _ => laidMetH Tryd.prog Rows.rootNamesRow.laid w) (fun _ _ _ hh h => h.of_heap hh) ownKnobs started (by kernel_rfl) Tryd.func3
    (ChangeSpec.witness_shaped (enc := enc) (C := Tryd.checked) (os := os) (X := fun w _ => laidMetH Tryd.prog Rows.rootNamesRow.laid w) false (World.laidAll Tryd.prog os Rows.rootNamesRow.laid) #[] 8 (World.laidAll_os _ _ _)
      (World.shaped_of_ZipB (by kernel_rfl) (by kernel_rfl)) (by kernel_rfl) (by kernel_rfl) (by kernel_rfl)
      (by rw [MakeChecks.laidMetH_plain _ _ _ (by kernel_rfl)]; exact laidMet_laidAll _ (by kernel_rfl) (by kernel_rfl))) ?_
  intro W base args ds gs before hval0 hW hcnd _ _ _
  have hval : ∀ (j : Nat) t v, Tryd.f3.params[j]? = some t → args[j]? = some v → Value.okWide Tryd.prog W .any base t v := hval0
  have hW' := hW
  obtain ⟨p, q, hA0, hV, rfl, hfz, hnd⟩ := hW
  have hA : DataW.TrodAll enc Tryd.prog W 0 (fun _ => true) true Tryd.f3.params.toList args.toList ds p := hA0
  rw [Tryd.params3] at hA hval
  obtain ⟨rfl, rfl, rfl⟩ := trodAll_none hA
  obtain ⟨rfl, rfl⟩ := trodVars_none hV
  clear hA0 hval0
  refine (walk W ).mono fun e W' ⟨he, bel⟩ => ?_
  subst he
  exact ⟨_, rfl, _, _, _, [], _, [], hW', trodAll_mk1 (shut_bool Tryd.underlying4 _), trodAll_mk0, rfl, bel.frame _, fun h => by cases h⟩

theorem over : Rows.rootNamesRow.holds Tryd.pinned (OpenSpec.ofChange Rows.rootNamesSpec) :=
  OpenClaim.holds_of_wide 3 Tryd.f3 rfl rfl rfl rfl rfl rfl rfl ⟨rfl, rfl, rfl, rfl, rfl⟩ rfl rfl rfl rfl rfl (by kernel_rfl) Tryd.func3 (by kernel_rfl)
    (of_decide_eq_true (by kernel_rfl)) (by unfold Func.isWrapper; first | (rw [if_pos (by decide +kernel)]; kernel_rfl) | (rw [if_neg (by decide +kernel)]; exact ⟨rfl, rfl⟩))
    (fun os started H enc _ => lifted os started H enc)

theorem proved : Rows.RootNamesCardSaid :=
  Claim7.holds_tied_plain_at .later [] [.data, .pinned] true Rows.rootNamesCard.stood.harness false over (fun _ h => by cases h) (by kernel_rfl) (fun _ h => by cases h) rootNames_row_tie rfl ⟨rfl, rfl⟩ (by kernel_rfl) rfl
    (fun f fn hf hfn => by
      obtain rfl : f = 3 := Option.some.inj ((show Tryd.prog.funcNamed "tallyman/tallymanlaw06.RootNames" = some 3 by kernel_rfl).symm.trans hf) |>.symm
      obtain rfl : fn = Tryd.f3 := (Option.some.inj (Tryd.func3.symm.trans hfn)).symm
      exact ⟨by kernel_rfl, fun j t ht => by
        rw [Tryd.params3] at ht
        have hm : t ∈ [] := by simpa using Array.mem_of_getElem? ht
        have hall : ([].all fun u => !Tryd.prog.wantsStandIn u) = true := by kernel_rfl
        exact (show Tryd.prog.wantsStandIn t = false by simpa using List.all_eq_true.1 hall t hm)⟩)
    (by kernel_rfl)
#print axioms proved
end Go.Proofs.YteeljcnmgfjcmaaDoor.rootNames
