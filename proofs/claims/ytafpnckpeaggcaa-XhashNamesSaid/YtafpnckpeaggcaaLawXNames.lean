/-
  The statement XhashNames: the chapter's examples come out as it tells, whatever memory the call is made in. Conditions: none.
-/
import Derived.Test.YtafpnckpeaggcaaLives2
import Derived.Test.YtafpnckpeaggcaaOpen
namespace Go.Proofs.Ytafpnckpeaggcaa.xhashNames
open Go.ChangeShapes Go.WideShapes Go.ChangeAt Go.RowKit
set_option linter.unusedVariables false

set_option maxRecDepth 100000 in
set_option maxHeartbeats 4000000 in
theorem walk (w : World) : Calls Try.prog 3 #[] w fun e w' => e = .returned (.bool true) ∧ Below w.heap.size w w' := by
  have L1 := Lib.hid (fun w => low_any 4660 8 w (by omega))
  have L2 := Lib.hid (fun w => high_any 9223372036854775808 1 w)
  have L3 := Lib.hid (fun w => low_any 7 99 w (by omega))
  have L4 := Lib.hid (fun w => high_any 7 0 w)
  have L5 := Lib.hid (fun w => high_any 7 (-1) w)
  have L6 := Lib.hid (fun w => aval_any 0 w (by omega))
  have L7 := Lib.hid (fun w => round_any 0 0 w)
  have L8 := Lib.hid (fun w => number_any w (.slice none 0 0) [] 1 (Byt.nil _) (by omega) (by simp))
  rw [show lowW 4660 (bitsW 8) = 52 from by decide +kernel] at L1
  rw [show highW 9223372036854775808 (bitsW 1) = 1 from by decide +kernel] at L2
  rw [show lowW 7 (bitsW 99) = 7 from by decide +kernel] at L3
  rw [show highW 7 (bitsW 0) = 0 from by decide +kernel] at L4
  rw [show highW 7 (bitsW (-1)) = 0 from by decide +kernel] at L5
  rw [show avalW 0 = 0 from by decide +kernel] at L6
  rw [show roundW 0 0 = 0 from by decide +kernel] at L7
  rw [show ([] ++ numB 1 : List UInt8) = [1] from by decide +kernel] at L8
  go_enter Try.func3, Try.ntmps3
  go_wp2_with fail
  refine (lives2_any _).mono ?_
  rintro e w1 ⟨rfl, hb1⟩
  go_wp2_with fail
  refine (L1.out _).mono ?_
  rintro e w2 ⟨rfl, rfl⟩
  go_wp2_with fail
  refine (L2.out _).mono ?_
  rintro e w2 ⟨rfl, rfl⟩
  go_wp2_with fail
  refine (L3.out _).mono ?_
  rintro e w2 ⟨rfl, rfl⟩
  go_wp2_with fail
  refine (L4.out _).mono ?_
  rintro e w2 ⟨rfl, rfl⟩
  go_wp2_with fail
  refine (L5.out _).mono ?_
  rintro e w2 ⟨rfl, rfl⟩
  go_wp2_with fail
  refine (L6.out _).mono ?_
  rintro e w2 ⟨rfl, rfl⟩
  go_wp2_with fail
  refine (L7.out _).mono ?_
  rintro e w2 ⟨rfl, rfl⟩
  go_wp2_with fail
  refine (L8.out _).mono ?_
  rintro e w2 ⟨v2, rfl, ho2, hb2⟩
  obtain ⟨A2, n2, c2, rfl, N2, _, _⟩ := ho2.byt.form
  have hn2 : n2 = 1 := N2.out
  subst hn2
  have hbw := hb1.trans (hb2.mono hb1.size)
  clear ho2 hb1 hb2 N2
  go_wp2_with fail
  go_ret
  exact ⟨rfl, hbw⟩

set_option maxRecDepth 100000 in
theorem lifted (os : Os) (started : os.Started) (H : Type) (enc : TypeId × Value → H) :
    ReturnsInHanded {} Try.checked os 3 .any (Rows.xhashNamesSpec.pre6 enc Try.prog Try.f3 Rows.xhashNamesRow.domain false) (Rows.xhashNamesSpec.post enc Try.prog Try.f3 false true false false) := by
  refine returnsInHanded_of_change (C := Try.checked) ownKnobs started (by kernel_rfl) Try.func3
    (ChangeSpec.witness6 (enc := enc) (C := Try.checked) false ⟨#[], #[], []⟩ 8 (by kernel_rfl) (by kernel_rfl) (by kernel_rfl) (by kernel_rfl)) ?_
  intro W base args ds gs before hval0 hW hcnd _
  have hval : ∀ (j : Nat) t v, Try.f3.params[j]? = some t → args[j]? = some v → Value.okWide Try.prog W .any base t v := hval0
  have hW' := hW
  obtain ⟨p, q, hA0, hV, rfl, hfz, hnd⟩ := hW
  have hA : DataW.TrodAll enc Try.prog W 0 (fun _ => true) true Try.f3.params.toList args.toList ds p := hA0
  rw [Try.params3] at hA hval
  obtain ⟨rfl, rfl, rfl⟩ := trodAll_none hA
  obtain ⟨rfl, rfl⟩ := trodVars_none hV
  clear hA0 hval0
  refine (walk W ).mono fun e W' ⟨he, bel⟩ => ?_
  subst he
  exact ⟨_, rfl, _, _, _, [], _, [], hW', trodAll_mk1 (shut_bool Try.underlying4 _), trodAll_mk0, rfl, bel.frame _, fun h => by cases h⟩

theorem over : Rows.xhashNamesRow.holds Try.pinned (OpenSpec.ofChange Rows.xhashNamesSpec) :=
  OpenClaim.holds_of_wide 3 Try.f3 rfl rfl rfl rfl rfl rfl rfl ⟨rfl, rfl, rfl, rfl, rfl⟩ rfl rfl rfl rfl rfl (by kernel_rfl) Try.func3 (by kernel_rfl)
    (of_decide_eq_true (by kernel_rfl)) (by unfold Func.isWrapper; first | (rw [if_pos (by decide +kernel)]; kernel_rfl) | (rw [if_neg (by decide +kernel)]; exact ⟨rfl, rfl⟩))
    (fun os started H enc _ => lifted os started H enc)

theorem proved : Rows.XhashNamesSaid := over
#print axioms proved
end Go.Proofs.Ytafpnckpeaggcaa.xhashNames
