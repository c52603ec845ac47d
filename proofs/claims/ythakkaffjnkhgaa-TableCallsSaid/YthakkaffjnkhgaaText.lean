/-
  'string(b)' by what the bytes are, laid ahead of a walk. Conditions: none.
-/
import Derived.Test.YthakkaffjnkhgaaRead5
import Derived.Lib.ConvBytes
namespace Go.Proofs.Ythakkaffjnkhgaa
open Go.RowKit
set_option maxRecDepth 100000

theorem strB : Try.prog.underlying 9 = some .string := Try.underlying9

/-- 'string(v)', to be laid ahead of a walk. -/
theorem text_of {w : World} {v : Value} {l : List UInt8} (h : Byt w v l) : (convert 30 9 v).run Try.prog w = .ok (.string ⟨l.toArray⟩) w :=
  run_text w 30 9 5 Try.underlying30 Try.underlying5 Try.underlying9 v l h

/-- '[]byte(s)' -/
theorem bytes_of (w : World) (l : List UInt8) (hl : l.length ≤ 70368744177664) :
    ∃ v w', (convert 9 30 (.string ⟨l.toArray⟩)).run Try.prog w = .ok v w' ∧ Byt w' v l ∧ Below w.heap.size w w' := by
  have hm : l.length ≤ maxLen := by simp only [maxLen]; omega
  have hsz : (⟨l.toArray⟩ : ByteArray).size = l.length := by simp [ByteArray.size]
  refine ⟨_, _, Lib.run_convert_string_bytes w 9 30 5 ⟨l.toArray⟩ Try.underlying9 Try.underlying30 Try.underlying5, ?_, rfl, rfl, rfl, ?_, ?_⟩
  · rw [hsz]
    refine ⟨_, _, rfl, grownCap_ge _ _ _ _, grownCap_le_maxLen _ _ _ _ hm, .inr ⟨w.heap.size, 0, rfl, ?_, fun j hj => ?_⟩⟩
    · rw [Lib.bytesWorld_size]; omega
    · rw [Nat.zero_add, Lib.bytesWorld_cell _ _ _ _ (by rw [hsz]; exact hj)]
      simp [List.getD, hj]
  · rw [Lib.bytesWorld_size]; omega
  · intro j hj
    exact Lib.bytesWorld_at_old w _ _ j hj

theorem bytes_eq (l m : List UInt8) : ((⟨l.toArray⟩ : ByteArray).toList == (⟨m.toArray⟩ : ByteArray).toList) = decide (l = m) := by
  rw [ByteArray.toList_eq, ByteArray.toList_eq]
  by_cases h : l = m
  · subst h; simp
  · simp [h]
theorem bytes_lit (l m : List UInt8) : ((⟨l.toArray⟩ : ByteArray).toList == m) = decide (l = m) := by
  rw [ByteArray.toList_eq]
  by_cases h : l = m
  · subst h; simp
  · simp [h]
end Go.Proofs.Ythakkaffjnkhgaa
