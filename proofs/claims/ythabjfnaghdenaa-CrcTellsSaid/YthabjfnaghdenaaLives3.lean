/-
  The examples that each statement of layer 3 asks first. Conditions: none.
-/
import Derived.Test.YthabjfnaghdenaaOn
namespace Go.Proofs.Ythabjfnaghdenaa
open Go.RowKit

theorem tab_1 : tabC.getD 1 0 = 4067132163 := (tabC_at (by omega)).trans (by decide +kernel)
theorem tab_128 : tabC.getD 128 0 = 2197175160 := (tabC_at (by omega)).trans (by decide +kernel)
/-- The same, no table looked up. -/
def quickC (s : Nat) (l : List UInt8) : Nat := l.foldl (fun s x => wordC (s ^^^ x.toNat)) s
theorem quickC_is : ∀ (l : List UInt8) (s : Nat), runC tabC s l = quickC s l := by
  intro l
  induction l with
  | nil => intro s; rfl
  | cons x l ih => intro s; rw [runC_cons, ih, stepC_word]; rfl
theorem sumC_quick (l : List UInt8) : sumC l = notC (quickC (notC 0) l) := by unfold sumC onC; rw [quickC_is]
theorem csum_digits : sumC [49, 50, 51, 52, 53, 54, 55, 56, 57] = 3808858755 := (sumC_quick _).trans (by decide +kernel)
theorem csum_none : sumC [] = 0 := rfl

set_option maxRecDepth 100000 in
set_option maxHeartbeats 4000000 in
theorem lives3_any (w : World) : Calls Try.prog 8 #[] w fun e w' => e = .returned (.bool true) ∧ Below w.heap.size w w' := by
  have kc := fun (w : World) (C : Array Value) (n c : Nat) => Lib.run_convert_bytes_const (P := Try.prog) w 28 5 C n c Try.underlying28 Try.underlying5
  have S0 := Lib.hid (fun w => crcsum_any w (.slice none 0 0) [] (Byt.nil _) (by simp))
  have S1 := Lib.hid (fun w v hv => crcsum_any w v [49, 50, 51, 52, 53, 54, 55, 56, 57] hv (by simp))
  rw [csum_none] at S0
  rw [csum_digits] at S1
  have Z := tabZero
  rw [tabTo_none] at Z
  have T0 := Lib.hid (tabTo_len 0 (by omega))
  generalize tabTo 0 = t0 at *
  have ST := Lib.hid (fun w => crctable_any w)
  have TC := Lib.hid tabC_tab.1
  have T1 := Lib.hid tab_1
  have T2 := Lib.hid tab_128
  generalize tabC = tc at *
  go_enter Try.func8, Try.ntmps8
  go_wp2_with fail
  refine (ST.out _).mono ?_
  rintro e w1 ⟨rfl, hb1⟩
  have HB1 := Lib.hid hb1
  clear hb1
  go_wp2_with (refine wpList_storeNew t0 T0.out tc TC.out rfl _ _ rfl rfl rfl ?_; intro w2 h2 h3 h4; have c1 := h2.cell 1 (by rw [TC.out]; omega); have c2 := h2.cell 128 (by rw [TC.out]; omega); rw [T1.out] at c1; rw [T2.out] at c2; clear h2; have HB2 := Lib.hid (HB1.out.trans (h3.mono HB1.out.size)); clear h3 h4)
  refine (S1.out _ _ (by exact Byt.lit w2 5 [49, 50, 51, 52, 53, 54, 55, 56, 57] (9, 10) (by simp [maxLen]))).mono ?_
  rintro e w3 ⟨rfl, hb3⟩
  have HB3 := Lib.hid (HB2.out.trans (((below_new w2 _).trans (hb3.mono (by simp))).mono HB2.out.size))
  clear hb3
  go_wp2_with fail
  refine (S0.out _).mono ?_
  rintro e w4 ⟨rfl, hb4⟩
  go_wp2_with fail
  go_ret
  exact ⟨rfl, HB3.out.trans (hb4.mono HB3.out.size)⟩
end Go.Proofs.Ythabjfnaghdenaa
