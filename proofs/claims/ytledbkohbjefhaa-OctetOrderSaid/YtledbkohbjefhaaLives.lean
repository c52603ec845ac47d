/-
  The law's 'lives' by its contract: it answers true and writes nothing that was there. Conditions: none.
-/
import Derived.Test.YtledbkohbjefhaaRead5
namespace Go.Proofs.Ytledbkohbjefhaa
open Go.RowKit

theorem strB : Try.prog.underlying 9 = some .string := Try.underlying9

/-- 'string(v)', to be laid ahead of a walk. -/
theorem text_of {w : World} {v : Value} {l : List UInt8} (h : Byt w v l) : (convert 24 9 v).run Try.prog w = .ok (.string ⟨l.toArray⟩) w :=
  run_text w 24 9 5 Try.underlying24 Try.underlying5 Try.underlying9 v l h

theorem made_list {w : World} {l m : List UInt8} {e : Ending} {w' : World} (h : Made w l e w') (hl : l = m) : Made w m e w' := hl ▸ h

set_option maxRecDepth 100000 in
set_option maxHeartbeats 4000000 in
theorem lives_any (w : World) : Calls Try.prog 10 #[] w fun e w' => e = .returned (.bool true) ∧ Below w.heap.size w w' := by
  have kc := fun (w : World) (C : Array Value) (n c : Nat) => Lib.run_convert_bytes_const (P := Try.prog) w 24 5 C n c Try.underlying24 Try.underlying5
  go_enter Try.func10, Try.ntmps10
  go_wp2_with fail
  refine (new_any _ _ [128, 0] (by exact Byt.lit w 5 [128, 0] (0, 0) (by simp [maxLen])) (by simp)).mono ?_
  rintro x w1 ⟨g, rfl, hg, hr, hb1⟩
  have hbw1 : Below w.heap.size w w1 := ((Below.refl _ _).alloc (Nat.le_refl _) _).trans (hb1.mono (by simp))
  have HR1 := Lib.hid hr
  clear hr hb1
  go_wp2_with fail
  refine (number_any _ _ [] 0 (Byt.nil _) (by omega) (by simp)).mono ?_
  rintro x w2 ⟨v2, rfl, ho2, hb2⟩
  have hc2 := text_of (l := [0]) ho2.byt
  have hbw2 := hbw1.trans (hb2.mono hbw1.size)
  have HR2 := Lib.hid (HR1.out.below hb2)
  clear ho2 hb2
  go_wp2_with fail
  refine (number_any _ _ [] 128 (Byt.nil _) (by omega) (by simp)).mono ?_
  rintro x w3 ⟨v3, rfl, ho3, hb3⟩
  rw [show ([] ++ numB 128 : List UInt8) = [128, 1] from by decide +kernel] at ho3
  have hc3 := text_of ho3.byt
  have hbw3 := hbw2.trans (hb3.mono hbw2.size)
  have HR3 := Lib.hid (HR2.out.below hb3)
  clear ho3 hb3
  go_wp2_with fail
  refine (number_any _ _ [] 300 (Byt.nil _) (by omega) (by simp)).mono ?_
  rintro x w4 ⟨v4, rfl, ho4, hb4⟩
  rw [show ([] ++ numB 300 : List UInt8) = [172, 2] from by decide +kernel] at ho4
  have hc4 := text_of ho4.byt
  have hbw4 := hbw3.trans (hb4.mono hbw3.size)
  have HR4 := Lib.hid (HR3.out.below hb4)
  clear ho4 hb4
  go_wp2_with fail
  refine (word_is _ _ [] 258 4 (Byt.nil _) (by omega) (by omega) (by simp)).mono ?_
  rintro x w5 ⟨v5, rfl, ho5, hb5⟩
  rw [show ([] ++ wordB 4 258 : List UInt8) = [2, 1, 0, 0] from by decide +kernel] at ho5
  have hc5 := text_of ho5.byt
  have hbw5 := hbw4.trans (hb5.mono hbw4.size)
  have HR5 := Lib.hid (HR4.out.below hb5)
  clear ho5 hb5
  go_wp2_with fail
  refine (block_any _ _ _ [] [97, 98] (Byt.nil _) (by exact Byt.lit w5 5 [97, 98] (2, 3) (by simp [maxLen])) (by simp)).mono ?_
  rintro x w6 ⟨v6, rfl, ho6, hb6⟩
  rw [show ([] ++ numB ([97, 98] : List UInt8).length ++ [97, 98] : List UInt8) = [2, 97, 98] from by decide +kernel] at ho6
  have hc6 := text_of ho6.byt
  have hb56 : Below w5.heap.size w5 w6 := ((Below.refl _ _).alloc (Nat.le_refl _) _).trans (hb6.mono (by simp))
  have hbw6 := hbw5.trans (hb56.mono hbw5.size)
  have HR6 := Lib.hid (HR5.out.below hb56)
  clear ho6 hb6 hb56
  go_wp2_with fail
  refine (number_is _ g 0 [128, 0] HR6.out).mono ?_
  rw [show uptoB [128, 0] 0 18446744073709551615 = (0, [128, 0], 4) from by decide +kernel]
  rintro x w7 ⟨rfl, hr7, hg7⟩
  have HR7 := Lib.hid hr7
  have hbw7 : Below w.heap.size w w7 := hbw6.grown hg7 hbw6.size (by rintro k ⟨rfl⟩; simp at hg; omega)
  clear hr7
  go_wp2_with fail
  refine (err_is _ g 4 [128, 0] HR7.out).mono ?_
  rintro x w8 ⟨rfl, rfl⟩
  go_wp2_with fail
  go_ret
  exact ⟨rfl, hbw7⟩
end Go.Proofs.Ytledbkohbjefhaa
