/-
  Pages over sectors, plain: what is saved is loaded. Conditions: no fault is to come.
-/
import Derived.Test.YtknagdbhhfelnaaDoorMg7
import Derived.Test.YtknagdbhhfelnaaDoorMg3
namespace Go.Proofs.YtknagdbhhfelnaaDoor
open Go.RowKit Go.Maps
set_option maxRecDepth 100000

theorem part_cons (b : List UInt8) (i : Nat) : partB b i ++ b.drop (512 * (i + 1)) = b.drop (512 * i) := by
  unfold partB
  rw [show 512 * (i + 1) = 512 * i + 512 by omega, ← List.drop_drop, List.take_append_drop]
theorem save_plain {n : Nat} {b : List UInt8} (hb : b.length = 4096) : ∀ k, k ≤ 8 → ∀ s : St, OkSt s → s.F = none → n < secs s / 8 →
    ∃ s', saveI n b k s = (0, s') ∧ OkSt s' ∧ s'.F = none ∧ secs s' = secs s ∧ ∀ i, readB s' i = if 8 * n + (8 - k) ≤ i ∧ i < 8 * n + 8 then partB b (i - 8 * n) else readB s i := by
  intro k
  induction k with
  | zero =>
    intro _ s ok hF _
    refine ⟨s, rfl, ok, hF, rfl, fun i => ?_⟩
    rw [if_neg (by omega)]
  | succ k ih =>
    intro hk s ok hF hn
    have hlt : 8 * n + (7 - k) < secs s := by omega
    have hpl : (partB b (7 - k)).length = 512 := partB_len hb (by omega)
    have hw := write_done s (8 * n + (7 - k)) (partB b (7 - k)) hF hlt hpl
    obtain ⟨s', h1, h2, h3, h4, h5⟩ := ih (by omega) (writeS s (8 * n + (7 - k)) (partB b (7 - k))) (ok.write hlt hpl) hF (by rw [secs_write]; exact hn)
    refine ⟨s', ?_, h2, h3, h4.trans (secs_write _ _ _), fun i => ?_⟩
    · rw [saveI, hw]
      exact (if_pos rfl).trans h1
    · rw [h5 i, read_write]
      by_cases e : 8 * n + (7 - k) = i
      · rw [if_pos e, if_neg (by omega), if_pos (by omega), show i - 8 * n = 7 - k by omega]
      · rw [if_neg e]
        by_cases h : 8 * n + (8 - k) ≤ i ∧ i < 8 * n + 8
        · rw [if_pos h, if_pos (by omega)]
        · rw [if_neg h, if_neg (by omega)]
/-- The page n of the disk holds these bytes. -/
def Holds (s : St) (n : Nat) (b : List UInt8) : Prop := ∀ i, i < 8 → readB s (8 * n + i) = partB b i
theorem load_plain {n : Nat} {b : List UInt8} {s : St} (hF : s.F = none) (hn : n < secs s / 8) (h : Holds s n b) : ∀ k, k ≤ 8 → ∀ acc, loadI n k s acc = (acc ++ (b.drop (512 * (8 - k))).take (512 * k), 0, s) := by
  intro k
  induction k with
  | zero => intro _ acc; simp [loadI]
  | succ k ih =>
    intro hk acc
    have hr := read_done s (8 * n + (7 - k)) hF (by omega)
    rw [loadI, hr]
    refine (if_pos rfl).trans ?_
    rw [ih (by omega), h (7 - k) (by omega), List.append_assoc]
    congr 2
    rw [show 8 - (k + 1) = 7 - k by omega]
    unfold partB
    rw [show 512 * (8 - k) = 512 * (7 - k) + 512 by omega, ← List.drop_drop, show 512 * (k + 1) = 512 + 512 * k by omega]
    exact (List.take_add).symm
theorem loadP_holds {n : Nat} {b : List UInt8} {s : St} (hF : s.F = none) (hn : n < secs s / 8) (hb : b.length = 4096) (h : Holds s n b) : loadP s (n : Int) = (b, 0, s) := by
  unfold loadP
  rw [if_pos ⟨by omega, by omega⟩, Int.toNat_natCast, load_plain hF hn h 8 (Nat.le_refl _), List.nil_append]
  congr 1
  simp only [Nat.sub_self, Nat.mul_zero, List.drop_zero]
  exact List.take_of_length_le (by omega)
theorem saveP_holds {n : Nat} {b : List UInt8} {s : St} (ok : OkSt s) (hF : s.F = none) (hn : n < secs s / 8) (hb : b.length = 4096) :
    ∃ s', saveP s (n : Int) b = (0, s') ∧ OkSt s' ∧ s'.F = none ∧ secs s' = secs s ∧ Holds s' n b ∧ ∀ m a, m ≠ n → Holds s m a → Holds s' m a := by
  obtain ⟨s', h1, h2, h3, h4, h5⟩ := save_plain hb 8 (Nat.le_refl _) s ok hF hn
  refine ⟨s', ?_, h2, h3, h4, fun i hi => ?_, fun m a hm h i hi => ?_⟩
  · unfold saveP
    rw [if_pos ⟨⟨by omega, by omega⟩, hb⟩, Int.toNat_natCast, h1]
  · rw [h5, if_pos (by omega), Nat.add_sub_cancel_left]
  · rw [h5, if_neg (by omega)]
    exact h i hi
theorem flush_holds {n : Nat} {b : List UInt8} {s : St} (ok : OkSt s) (h : Holds s n b) : Holds (settleS (fun _ => 512) s) n b := fun i hi => (flush_sect ok _).trans (h i hi)
theorem image_holds {n : Nat} {b : List UInt8} {s : St} (ok : OkSt s) (hb : b.length = 4096) (h : Holds s n b) : ((settleS (fun _ => 512) s).B.drop (4096 * n)).take 4096 = b := by
  have hl : (settleS (fun _ => 512) s).B.length = s.B.length := settleS_len _ ok
  have hw := ok.whole
  generalize hB : (settleS (fun _ => 512) s).B = B at hl
  have hs : ∀ i, i < 8 → sectB B (8 * n + i) = partB b i := fun i hi => by rw [← hB, flush_sect ok]; exact h i hi
  have step : ∀ j, j ≤ 8 → (B.drop (4096 * n)).take (512 * j) = b.take (512 * j) := by
    intro j
    induction j with
    | zero => intro _; simp
    | succ j ih =>
      intro hj
      rw [show 512 * (j + 1) = 512 * j + 512 by omega, List.take_add, List.take_add, ih (by omega), List.drop_drop]
      congr 1
      have := hs j (by omega)
      unfold sectB partB at this
      rw [show 4096 * n + 512 * j = 512 * (8 * n + j) by omega]
      exact this
  have := step 8 (Nat.le_refl _)
  rw [show 512 * 8 = 4096 from rfl] at this
  rw [this]
  exact List.take_of_length_le (by omega)
end Go.Proofs.YtknagdbhhfelnaaDoor
