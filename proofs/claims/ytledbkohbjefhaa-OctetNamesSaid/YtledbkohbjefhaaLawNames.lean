/-
  The statement OctetNames: the chapter's examples come out as it tells, whatever memory the call is made in. Conditions: none.
-/
import Derived.Test.YtledbkohbjefhaaLives
import Derived.ProofKit
import Derived.OpenShut
import Derived.ShutString
import Derived.ChangeOld
namespace Go.Proofs.Ytledbkohbjefhaa.octetNames
open Go.ChangeShapes Go.WideShapes Go.ChangeAt Go.RowKit
set_option linter.unusedVariables false

theorem own : ownKnob Try.prog.godebug = none := by kernel_rfl

set_option maxRecDepth 100000 in
set_option maxHeartbeats 4000000 in
theorem walk (w : World) : Calls Try.prog 3 #[] w fun e w' => e = .returned (.bool true) ∧ Below w.heap.size w w' := by
  have kc := fun (w : World) (C : Array Value) (n c : Nat) => Lib.run_convert_bytes_const (P := Try.prog) w 24 5 C n c Try.underlying24 Try.underlying5
  have S := Lib.hid (fun w => size_any 9223372036854775808 w (by omega))
  rw [show (numB 9223372036854775808).length = 10 from by decide +kernel] at S
  go_enter Try.func3, Try.ntmps3
  go_wp2_with fail
  refine (new_any _ _ [5, 97] (by exact Byt.lit w 5 [5, 97] (0, 0) (by simp [maxLen])) (by simp)).mono ?_
  rintro x w1 ⟨g, rfl, hg, hr, hb1⟩
  have hbw1 : Below w.heap.size w w1 := ((Below.refl _ _).alloc (Nat.le_refl _) _).trans (hb1.mono (by simp))
  have HR1 := Lib.hid hr
  clear hr hb1
  go_wp2_with fail
  refine (rblock_is _ g 0 [5, 97] HR1.out (by simp)).mono ?_
  rw [show blockB [5, 97] 0 = ([], [5, 97], 5) from by decide +kernel]
  rintro x w2 ⟨v2, rfl, hv2, hr2, hg2⟩
  have HR2 := Lib.hid hr2
  have hbw2 : Below w.heap.size w w2 := hbw1.grown hg2 hbw1.size (by rintro k ⟨rfl⟩; simp at hg; omega)
  obtain ⟨A2, n2, c2, rfl, HN2, _, _⟩ := hv2.form
  have hn2 : n2 = 0 := HN2.out
  subst hn2
  clear hr2 hv2 hg2 HN2
  go_wp2_with fail
  refine (new_any _ _ [1, 2] (by exact Byt.lit w2 5 [1, 2] (0, 0) (by simp [maxLen])) (by simp)).mono ?_
  rintro x w3 ⟨g3, rfl, hg3, hr3, hb3⟩
  have hb23 : Below w2.heap.size w2 w3 := ((Below.refl _ _).alloc (Nat.le_refl _) _).trans (hb3.mono (by simp))
  have hbw3 := hbw2.trans (hb23.mono hbw2.size)
  have HR3 := Lib.hid (HR2.out.below hb23)
  have HS3 := Lib.hid hr3
  have hg3' : w.heap.size ≤ g3 := by have := hbw2.size; simp at hg3; omega
  clear hr3 hb3 hb23
  go_wp2_with fail
  refine (lives_any _).mono ?_
  rintro x w4 ⟨rfl, hb4⟩
  have hbw4 := hbw3.trans (hb4.mono hbw3.size)
  have HR4 := Lib.hid (HR3.out.below hb4)
  have HS4 := Lib.hid (HS3.out.below hb4)
  clear hb4
  go_wp2_with fail
  refine (err_is _ g 5 _ HR4.out).mono ?_
  rintro x w5 ⟨rfl, rfl⟩
  go_wp2_with fail
  refine (end_nil _).mono ?_
  rintro x w5 ⟨rfl, rfl⟩
  go_wp2_with fail
  refine (number_nil _).mono ?_
  rintro x w5 ⟨rfl, rfl⟩
  go_wp2_with fail
  refine (S.out _).mono ?_
  rintro x w5 ⟨rfl, rfl⟩
  go_wp2_with fail
  refine (rword_is _ g3 0 [1, 2] 2 HS4.out (by simp)).mono ?_
  rw [show wordR [1, 2] 0 2 = (513, [], 0) from by decide +kernel]
  rintro x w5 ⟨rfl, hr5, hg5⟩
  have HS5 := Lib.hid hr5
  have hbw5 : Below w.heap.size w w5 := hbw4.grown hg5 hbw4.size (by rintro k ⟨rfl⟩; exact hg3')
  clear hr5 hg5
  go_wp2_with fail
  refine (end_ok _ g3 HS5.out).mono ?_
  rintro x w6 ⟨rfl, hr6, hg6⟩
  have HS6 := Lib.hid hr6
  have hbw6 : Below w.heap.size w w6 := hbw5.grown hg6 hbw5.size (by rintro k ⟨rfl⟩; exact hg3')
  clear hr6 hg6
  go_wp2_with fail
  refine (rword_is _ g3 0 [] 3 HS6.out (by simp)).mono ?_
  rw [show wordR [] 0 3 = (0, [], 4) from by decide +kernel]
  rintro x w7 ⟨rfl, hr7, hg7⟩
  have HS7 := Lib.hid hr7
  have hbw7 : Below w.heap.size w w7 := hbw6.grown hg7 hbw6.size (by rintro k ⟨rfl⟩; exact hg3')
  clear hr7 hg7
  go_wp2_with fail
  refine (err_is _ g3 4 [] HS7.out).mono ?_
  rintro x w8 ⟨rfl, rfl⟩
  go_wp2_with fail
  refine (word_not _ _ [120] 1 3 (by exact Byt.lit w7 5 [120] (1, 2) (by simp [maxLen])) (by omega) (by simp)).mono ?_
  rintro x w8 ⟨v8, rfl, ho8, hb8⟩
  have hc8 := text_of ho8.byt
  have hb78 : Below w7.heap.size w7 w8 := ((Below.refl _ _).alloc (Nat.le_refl _) _).trans (hb8.mono (by simp))
  have hbw8 := hbw7.trans (hb78.mono hbw7.size)
  clear ho8 hb8 hb78
  go_wp2_with fail
  go_ret
  exact ⟨rfl, hbw8⟩

set_option maxRecDepth 100000 in
theorem lifted (os : Os) (started : os.Started) (H : Type) (enc : TypeId × Value → H) :
    ReturnsInHanded {} Try.checked os 3 .any (Rows.octetNamesSpec.pre6 enc Try.prog Try.f3 Rows.octetNamesRow.domain false) (Rows.octetNamesSpec.post enc Try.prog Try.f3 false true false false) := by
  refine returnsInHanded_of_change (C := Try.checked) own started (by kernel_rfl) Try.func3
    (ChangeSpec.witness6 (enc := enc) (C := Try.checked) false ⟨#[], #[], []⟩ 8 (by kernel_rfl) (by kernel_rfl) (by kernel_rfl) (by kernel_rfl)) ?_
  intro W base args ds gs before hval0 hW hcnd _
  have hW' := hW
  obtain ⟨p, q, hA0, hV, rfl, hfz, hnd⟩ := hW
  have hA : DataW.TrodAll enc Try.prog W 0 (fun _ => true) true Try.f3.params.toList args.toList ds p := hA0
  rw [Try.params3] at hA
  obtain ⟨rfl, rfl, rfl⟩ := trodAll_none hA
  obtain ⟨rfl, rfl⟩ := trodVars_none hV
  clear hA0 hval0
  refine (walk W).mono fun e W' ⟨he, bel⟩ => ?_
  subst he
  exact ⟨_, rfl, _, _, _, [], _, [], hW', trodAll_mk1 (shut_bool Try.underlying4 _), trodAll_mk0, rfl, bel.frame _, fun h => by cases h⟩

theorem over : Rows.octetNamesRow.holds Try.pinned (OpenSpec.ofChange Rows.octetNamesSpec) :=
  OpenClaim.holds_of_wide 3 Try.f3 rfl rfl rfl rfl rfl rfl rfl ⟨rfl, rfl, rfl, rfl, rfl⟩ rfl rfl rfl rfl rfl (by kernel_rfl) Try.func3 (by kernel_rfl)
    (of_decide_eq_true (by kernel_rfl)) (by unfold Func.isWrapper; first | (rw [if_pos (by decide +kernel)]; kernel_rfl) | (rw [if_neg (by decide +kernel)]; exact ⟨rfl, rfl⟩))
    (fun os started H enc _ => lifted os started H enc)

theorem proved : Rows.OctetNamesSaid := over
#print axioms proved
end Go.Proofs.Ytledbkohbjefhaa.octetNames
