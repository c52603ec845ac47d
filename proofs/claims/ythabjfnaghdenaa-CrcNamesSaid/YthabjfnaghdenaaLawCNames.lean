/-
  The statement CrcNames: the chapter's examples come out as it tells, whatever memory the call is made in. Conditions: none.
-/
import Derived.Test.YthabjfnaghdenaaLives3
import Derived.Test.YthabjfnaghdenaaParts
import Derived.Test.YthabjfnaghdenaaOpen
namespace Go.Proofs.Ythabjfnaghdenaa.crcNames
open Go.ChangeShapes Go.WideShapes Go.ChangeAt Go.RowKit
set_option linter.unusedVariables false

theorem row3 (w : World) (fz : Nat × Nat) (e : TypeId) (a b c : Value) : Rowz (w.alloc (.cells #[a, b, c] e fz)) (.slice (some ⟨w.heap.size, 0, none⟩) 3 3) [a, b, c] := by
  refine ⟨_, 3, rfl, Nat.le_refl _, by simp [maxLen], .inr ⟨w.heap.size, 0, rfl, by simp, fun j hj => ?_⟩⟩
  rw [cell_of_row _ _ _ _ _ _ (heap_alloc_new w _)]
  have : j = 0 ∨ j = 1 ∨ j = 2 := by simp at hj; omega
  rcases this with rfl | rfl | rfl <;> rfl

theorem names_byts (w : World) (o : Obj) : Byts (((w.alloc (.cells (byc [49, 50, 51, 52]).toArray 5 (4, 5))).alloc (.cells (byc [53, 54, 55, 56, 57]).toArray 5 (5, 6))).alloc o)
    [.slice (some ⟨w.heap.size, 0, none⟩) 4 4, .slice none 0 0, .slice (some ⟨w.heap.size + 1, 0, none⟩) 5 5] [[49, 50, 51, 52], [], [53, 54, 55, 56, 57]] := by
  have b1 := ((Byt.lit w 5 [49, 50, 51, 52] (4, 5) (by simp [maxLen])).alloc (.cells (byc [53, 54, 55, 56, 57]).toArray 5 (5, 6))).alloc o
  have b2 := (Byt.lit (w.alloc (.cells (byc [49, 50, 51, 52]).toArray 5 (4, 5))) 5 [53, 54, 55, 56, 57] (5, 6) (by simp [maxLen])).alloc o
  rw [show (w.alloc (.cells (byc [49, 50, 51, 52]).toArray 5 (4, 5))).heap.size = w.heap.size + 1 by simp] at b2
  refine ⟨rfl, fun j hj hj' => ?_⟩
  have : j = 0 ∨ j = 1 ∨ j = 2 := by simp at hj; omega
  rcases this with rfl | rfl | rfl
  · exact b1
  · exact Byt.nil _
  · exact b2

set_option maxRecDepth 100000 in
set_option maxHeartbeats 4000000 in
theorem walk (w : World) : Calls Try.prog 3 #[] w fun e w' => e = .returned (.bool true) ∧ Below w.heap.size w w' := by
  have kc := fun (w : World) (C : Array Value) (n c : Nat) => Lib.run_convert_bytes_const (P := Try.prog) w 28 5 C n c Try.underlying28 Try.underlying5
  have kc2 : ∀ (w : World) (o : Obj) (C : Array Value) (n c : Nat), (convert 28 28 (.slice (some ⟨w.heap.size + 1, 0, none⟩) n c)).run Try.prog ((w.alloc o).alloc (.cells C 5)) = .ok (.slice (some ⟨w.heap.size + 1, 0, none⟩) n c) ((w.alloc o).alloc (.cells C 5 (C.size, C.size + 1))) := fun w o C n c => by
    have := kc (w.alloc o) C n c
    rw [show (w.alloc o).heap.size = w.heap.size + 1 by simp] at this
    exact this
  have ST := Lib.hid (fun w => crctable_any w)
  have S1 := Lib.hid (fun w => crcon_any w tabC 0 (.slice none 0 0) [] tabC_tab (by omega) (Byt.nil _) (by simp))
  rw [onC_nil _ _ (by omega)] at S1
  have S2 := Lib.hid (fun w v vs hv hl => crcparts_any w v vs [[49, 50, 51, 52], [], [53, 54, 55, 56, 57]] hv hl (by simp))
  rw [show ([[49, 50, 51, 52], [], [53, 54, 55, 56, 57]] : List (List UInt8)).flatten = [49, 50, 51, 52, 53, 54, 55, 56, 57] from rfl, csum_digits] at S2
  have S3 := Lib.hid (fun w => crcparts_any w (.slice none 0 0) [] [] (Rowz.nil _) (Byts.nil _) (by simp))
  rw [show ([] : List (List UInt8)).flatten = [] from rfl, csum_none] at S3
  have S4 := Lib.hid (fun w => crcstep_any w tabC 0 1 tabC_tab (by omega))
  rw [show stepC tabC 0 1 = 4067132163 from (stepC_word 0 1).trans (by decide +kernel)] at S4
  generalize tabC = tc at *
  go_enter Try.func3, Try.ntmps3
  go_wp2_with fail
  refine (lives3_any _).mono ?_
  rintro e w1 ⟨rfl, hb1⟩
  have HB1 := Lib.hid hb1
  clear hb1
  go_wp2_with fail
  refine (ST.out _).mono ?_
  rintro e w2 ⟨rfl, hb2⟩
  have HB2 := Lib.hid (HB1.out.trans (hb2.mono HB1.out.size))
  clear hb2 HB1
  go_wp2_with fail
  refine (S1.out _).mono ?_
  rintro e w3 ⟨rfl, hb3⟩
  have HB3 := Lib.hid (HB2.out.trans (hb3.mono HB2.out.size))
  clear hb3 HB2
  go_wp2_with fail
  refine (S2.out _ _ [.slice (some ⟨w3.heap.size, 0, none⟩) 4 4, .slice none 0 0, .slice (some ⟨w3.heap.size + 1, 0, none⟩) 5 5] (by have := row3 ((w3.alloc (.cells (byc [49, 50, 51, 52]).toArray 5 (4, 5))).alloc (.cells (byc [53, 54, 55, 56, 57]).toArray 5 (5, 6))) (0, 0) 28 (.slice (some ⟨w3.heap.size, 0, none⟩) 4 4) (.slice none 0 0) (.slice (some ⟨w3.heap.size + 1, 0, none⟩) 5 5); simp only [World.size_alloc] at this; exact this) (by exact names_byts w3 _)).mono ?_
  rintro e w4 ⟨rfl, hb4⟩
  have HB4 := Lib.hid (HB3.out.trans (((((below_new w3 _).alloc (by simp only [World.size_alloc]; omega) _).alloc (by simp only [World.size_alloc]; omega) _).trans (hb4.mono (by simp only [World.size_alloc]; omega))).mono HB3.out.size))
  clear hb4 HB3
  go_wp2_with fail
  refine (S3.out _).mono ?_
  rintro e w5 ⟨rfl, hb5⟩
  have HB5 := Lib.hid (HB4.out.trans (hb5.mono HB4.out.size))
  clear hb5 HB4
  go_wp2_with fail
  refine (ST.out _).mono ?_
  rintro e w6 ⟨rfl, hb6⟩
  have HB6 := Lib.hid (HB5.out.trans (hb6.mono HB5.out.size))
  clear hb6 HB5
  go_wp2_with fail
  refine (S4.out _).mono ?_
  rintro e w7 ⟨rfl, hb7⟩
  have HB7 := Lib.hid (HB6.out.trans (hb7.mono HB6.out.size))
  clear hb7 HB6
  go_wp2_with fail
  go_ret
  exact ⟨rfl, HB7.out⟩

set_option maxRecDepth 100000 in
theorem lifted (os : Os) (started : os.Started) (H : Type) (enc : TypeId × Value → H) :
    ReturnsInHanded {} Try.checked os 3 .any (Rows.crcNamesSpec.pre6 enc Try.prog Try.f3 Rows.crcNamesRow.domain false) (Rows.crcNamesSpec.post enc Try.prog Try.f3 false true false false) := by
  refine returnsInHanded_of_change (C := Try.checked) ownKnobs started (by kernel_rfl) Try.func3
    (ChangeSpec.witness6 (enc := enc) (C := Try.checked) false ⟨#[], #[], []⟩ 8 (by kernel_rfl) (by kernel_rfl) (by kernel_rfl) (by kernel_rfl)) ?_
  intro W base args ds gs before hval0 hW hcnd _
  have hval : ∀ (j : Nat) t v, Try.f3.params[j]? = some t → args[j]? = some v → Value.okWide Try.prog W .any base t v := hval0
  have hW' := hW
  obtain ⟨p, q, hA0, hV, rfl, hfz, hnd⟩ := hW
  have hA : DataW.TrodAll enc Try.prog W 0 (fun _ => true) true Try.f3.params.toList args.toList ds p := hA0
  rw [Try.params3] at hA hval
  obtain ⟨rfl, rfl, rfl⟩ := trodAll_none hA
  obtain ⟨rfl, rfl⟩ := trodVars_none hV
  clear hA0 hval0
  refine (walk W ).mono fun e W' ⟨he, bel⟩ => ?_
  subst he
  exact ⟨_, rfl, _, _, _, [], _, [], hW', trodAll_mk1 (shut_bool Try.underlying4 _), trodAll_mk0, rfl, bel.frame _, fun h => by cases h⟩

theorem over : Rows.crcNamesRow.holds Try.pinned (OpenSpec.ofChange Rows.crcNamesSpec) :=
  OpenClaim.holds_of_wide 3 Try.f3 rfl rfl rfl rfl rfl rfl rfl ⟨rfl, rfl, rfl, rfl, rfl⟩ rfl rfl rfl rfl rfl (by kernel_rfl) Try.func3 (by kernel_rfl)
    (of_decide_eq_true (by kernel_rfl)) (by unfold Func.isWrapper; first | (rw [if_pos (by decide +kernel)]; kernel_rfl) | (rw [if_neg (by decide +kernel)]; exact ⟨rfl, rfl⟩))
    (fun os started H enc _ => lifted os started H enc)

theorem proved : Rows.CrcNamesSaid := over
#print axioms proved
end Go.Proofs.Ythabjfnaghdenaa.crcNames
