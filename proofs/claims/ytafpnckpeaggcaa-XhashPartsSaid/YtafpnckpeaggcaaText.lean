/-
  'string(b)' by what the bytes are, laid ahead of a walk. Conditions: none.
-/
import Derived.Test.YtafpnckpeaggcaaRead5
import Derived.Lib.ConvBytes
namespace Go.Proofs.Ytafpnckpeaggcaa
open Go.RowKit

theorem strB : Try.prog.underlying 9 = some .string := Try.underlying9

/-- 'string(v)', to be laid ahead of a walk. -/
theorem text_of {w : World} {v : Value} {l : List UInt8} (h : Byt w v l) : (convert 27 9 v).run Try.prog w = .ok (.string ⟨l.toArray⟩) w :=
  run_text w 27 9 5 Try.underlying27 Try.underlying5 Try.underlying9 v l h

theorem made_list {w : World} {l m : List UInt8} {e : Ending} {w' : World} (h : Made w l e w') (hl : l = m) : Made w m e w' := hl ▸ h

/-- '[]byte(s)' -/
theorem bytes_of (w : World) (l : List UInt8) (hl : l.length ≤ 70368744177664) :
    ∃ v w', (convert 9 27 (.string ⟨l.toArray⟩)).run Try.prog w = .ok v w' ∧ Byt w' v l ∧ Below w.heap.size w w' := by
  have hm : l.length ≤ maxLen := by simp only [maxLen]; omega
  have hsz : (⟨l.toArray⟩ : ByteArray).size = l.length := by simp [ByteArray.size]
  refine ⟨_, _, Lib.run_convert_string_bytes w 9 27 5 ⟨l.toArray⟩ Try.underlying9 Try.underlying27 Try.underlying5, ?_, rfl, rfl, rfl, ?_, ?_⟩
  · rw [hsz]
    refine ⟨_, _, rfl, grownCap_ge _ _ _ _, grownCap_le_maxLen _ _ _ _ hm, .inr ⟨w.heap.size, 0, rfl, ?_, fun j hj => ?_⟩⟩
    · rw [Lib.bytesWorld_size]; omega
    · rw [Nat.zero_add, Lib.bytesWorld_cell _ _ _ _ (by rw [hsz]; exact hj)]
      simp [List.getD, hj]
  · rw [Lib.bytesWorld_size]; omega
  · intro j hj
    exact Lib.bytesWorld_at_old w _ _ j hj
end Go.Proofs.Ytafpnckpeaggcaa
