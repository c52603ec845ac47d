/-
  The second layer's 'lives' by its contract: it answers true and writes nothing that was there. Conditions: none.
-/
import Derived.Test.YtafpnckpeaggcaaHx4
namespace Go.Proofs.Ytafpnckpeaggcaa
open Go.RowKit

theorem sum_none : sumW 0 [] = 17241709254077376921 := by decide +kernel
theorem sum_a : sumW 0 [97] = 15154266338359012955 := by decide +kernel
theorem sum_abc : sumW 0 [97, 98, 99] = 4952883123889572249 := by decide +kernel

set_option maxRecDepth 100000 in
set_option maxHeartbeats 4000000 in
theorem lives2_any (w : World) : Calls Try.prog 8 #[] w fun e w' => e = .returned (.bool true) ∧ Below w.heap.size w w' := by
  have kc := fun (w : World) (C : Array Value) (n c : Nat) => Lib.run_convert_bytes_const (P := Try.prog) w 27 5 C n c Try.underlying27 Try.underlying5
  have S0 := Lib.hid (fun w => sum_any w 0 (.slice none 0 0) [] (Byt.nil _) (by omega) (by simp))
  have S1 := Lib.hid (fun w v hv => sum_any w 0 v [97] hv (by omega) (by simp))
  have S2 := Lib.hid (fun w => text_any w 0 [97, 98, 99] (by omega) (by simp))
  rw [sum_none] at S0
  rw [sum_a] at S1
  rw [sum_abc] at S2
  go_enter Try.func8, Try.ntmps8
  go_wp2_with fail
  refine (S0.out _).mono ?_
  rintro e w1 ⟨rfl, hb1⟩
  go_wp2_with fail
  refine (S1.out _ _ (by exact Byt.lit w1 5 [97] (1, 2) (by simp [maxLen]))).mono ?_
  rintro e w2 ⟨rfl, hb2⟩
  have hb12 : Below w1.heap.size w1 w2 := ((Below.refl _ _).alloc (Nat.le_refl _) _).trans (hb2.mono (by simp))
  have hbw2 := hb1.trans (hb12.mono hb1.size)
  clear hb1 hb2 hb12
  go_wp2_with fail
  refine (S2.out _).mono ?_
  rintro e w3 ⟨rfl, hb3⟩
  have hbw3 := hbw2.trans (hb3.mono hbw2.size)
  clear hb3 hbw2
  go_wp2_with fail
  go_ret
  exact ⟨rfl, hbw3⟩
end Go.Proofs.Ytafpnckpeaggcaa
