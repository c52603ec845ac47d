/-
  The examples that each statement of layer 4 asks first. Conditions: none.
-/
import Derived.Test.YtmfcckmcbmlhmaaSecM
namespace Go.Proofs.Ytmfcckmcbmlhmaa
open Go.RowKit Go.Maps
set_option maxRecDepth 100000

/-! The disk of the examples. -/
theorem secs_write (s : St) (n : Nat) (l : List UInt8) : secs (writeS s n l) = secs s := rfl
theorem write_done (s : St) (n : Nat) (l : List UInt8) (hF : s.F = none) (hn : n < secs s) (hl : l.length = 512) : writeR s (n : Int) l = (0, writeS s n l) := by
  obtain ⟨B, C, F⟩ := s
  have hF' : F = none := hF
  subst hF'
  unfold writeR
  rw [if_pos ⟨⟨by omega, by omega⟩, hl⟩]
  rfl
theorem read_done (s : St) (n : Nat) (hF : s.F = none) (hn : n < secs s) : readR s (n : Int) = (readB s n, 0, s) := by
  obtain ⟨B, C, F⟩ := s
  have hF' : F = none := hF
  subst hF'
  unfold readR
  rw [if_pos ⟨by omega, by omega⟩]
  rfl
theorem read_crash (s : St) (keep : List Bool) (torn bytes : Int) (n : Nat) : readB (crashS s keep torn bytes) n = sectB (crashS s keep torn bytes).B n := rfl
theorem crash_two (s : St) (n1 n2 : Nat) (l1 l2 : List UInt8) (hC : s.C = [(n1, l1), (n2, l2)]) (keep : List Bool) (torn bytes : Int) :
    (crashS s keep torn bytes).B = splice (splice s.B (512 * n1) (l1.take (keptN keep torn bytes 0))) (512 * n2) (l2.take (keptN keep torn bytes 1)) := by
  obtain ⟨B, C, F⟩ := s
  have hC' : C = _ := hC
  subst hC'
  rfl
def ex0 : St := newS 4
def ex1 : St := writeS ex0 2 (rowB 97)
def ex2 : St := writeS ex1 0 (rowB 98)
def ex3 : St := crashS ex2 [true] 1 3
theorem ex_s0 : secs ex0 = 4 := secs_new 4
theorem ex_s1 : secs ex1 = 4 := by unfold ex1; rw [secs_write, ex_s0]
theorem ex_s2 : secs ex2 = 4 := by unfold ex2; rw [secs_write, ex_s1]
theorem ex_w1 : writeR ex0 (2 : Int) (rowB 97) = (0, ex1) := write_done ex0 2 (rowB 97) rfl (by rw [ex_s0]; omega) (rowB_len 97)
theorem ex_w2 : writeR ex1 (0 : Int) (rowB 98) = (0, ex2) := write_done ex1 0 (rowB 98) rfl (by rw [ex_s1]; omega) (rowB_len 98)
theorem ex_keys : keysC ex2.C = [2, 0] := rfl
theorem ex_ok0 : OkSt ex0 := OkSt.new (by omega) (by omega)
theorem ex_ok1 : OkSt ex1 := ex_ok0.write (by rw [ex_s0]; omega) (rowB_len 97)
theorem ex_ok2 : OkSt ex2 := ex_ok1.write (by rw [ex_s1]; omega) (rowB_len 98)
theorem ex_s3 : secs ex3 = 4 := by
  have h : secs ex3 = secs (settleS (keptN [true] 1 3) ex2) := rfl
  rw [h, secs_settle _ ex_ok2, ex_s2]
theorem ex_B2 : ex2.B = List.replicate 2048 0 := rfl
theorem ex_len2 : ex2.B.length = 2048 := by rw [ex_B2, List.length_replicate]
theorem ex_B3 : ex3.B = splice (splice (List.replicate 2048 0) 1024 (rowB 97)) 0 [98, 98, 98] := by
  unfold ex3
  rw [crash_two ex2 2 0 (rowB 97) (rowB 98) rfl]
  have h0 : keptN [true] 1 3 0 = 512 := by decide
  have h1 : keptN [true] 1 3 1 = 3 := by decide
  have e0 : (rowB 97).take 512 = rowB 97 := List.take_of_length_le (by rw [rowB_len]; exact Nat.le_refl _)
  have e1 : (rowB 98).take 3 = [98, 98, 98] := by unfold rowB; rw [List.take_replicate]; rfl
  rw [h0, h1, e0, e1, ex_B2]
theorem ex_r2 : readR ex3 (2 : Int) = (rowB 97, 0, ex3) := by
  have h0 : readR ex3 (2 : Int) = (readB ex3 2, 0, ex3) := read_done ex3 2 rfl (by rw [ex_s3]; omega)
  have h : readB ex3 2 = rowB 97 := by
    have h1 : readB ex3 2 = sectB ex3.B 2 := read_crash ex2 _ _ _ 2
    rw [h1, ex_B3]
    unfold sectB splice
    have l1 : (rowB 97).length = 512 := rowB_len 97
    rw [List.take_zero, List.nil_append, List.drop_append, List.drop_drop, List.length_cons, List.length_cons, List.length_cons, List.length_nil]
    rw [show (512 * 2 - (0 + 1 + 1 + 1)) + (0 + (0 + 1 + 1 + 1)) = 1024 by omega]
    rw [List.drop_of_length_le (show [(98 : UInt8), 98, 98].length ≤ 512 * 2 by decide), List.nil_append]
    rw [List.drop_append, List.drop_of_length_le (by rw [List.length_take, List.length_replicate]; omega), List.nil_append, List.length_take, List.length_replicate, show 1024 - min 1024 2048 = 0 by omega, List.drop_zero]
    rw [List.take_append, l1, Nat.sub_self, List.take_zero, List.append_nil, List.take_of_length_le (by rw [l1]; exact Nat.le_refl _)]
  rw [h0, h]
theorem ex_r0 : ∃ l, readR ex3 (0 : Int) = (l, 0, ex3) ∧ l.take 4 = [98, 98, 98, 0] ∧ l.length = 512 := by
  refine ⟨readB ex3 0, ?_, ?_, ?_⟩
  · exact read_done ex3 0 rfl (by rw [ex_s3]; omega)
  · have h1 : readB ex3 0 = sectB ex3.B 0 := read_crash ex2 _ _ _ 0
    rw [h1, ex_B3]
    unfold sectB
    rw [Nat.mul_zero, List.drop_zero, List.take_take, show min 4 512 = 4 by decide]
    obtain ⟨Y, hY⟩ : ∃ Y, splice (List.replicate 2048 (0 : UInt8)) 1024 (rowB 97) = 0 :: 0 :: 0 :: 0 :: Y := by
      unfold splice
      rw [List.take_replicate, show min 1024 2048 = 1020 + 1 + 1 + 1 + 1 by decide, List.replicate_succ, List.replicate_succ, List.replicate_succ, List.replicate_succ]
      exact ⟨_, rfl⟩
    rw [hY]
    rfl
  · have h3 : OkSt ex3 := ex_ok2.crash _ _ _
    exact readB_len h3 (by rw [ex_s3]; omega)

theorem write_any (w : World) (S : Nat → Prop) (g : Nat) (s : St) (x : Int) (v : Value) (l : List UInt8) (h : Dsk w S g s) (hv : Byt w v l) (hne : ∀ k, v.ownBlock = some k → ¬ S k) :
    Calls Try.prog 50 #[.pointer (some ⟨g, 0, none⟩), .int .i64 x, v] w (Done w S g (writeR s x l)) := by
  by_cases hx : (0 ≤ x ∧ x < ((secs s : Nat) : Int)) ∧ l.length = 512
  · obtain ⟨n, rfl⟩ := Int.eq_ofNat_of_zero_le hx.1.1
    exact write_ok w S g s n v l h hv hne (by have := hx.1.2; omega) hx.2
  · exact write_bad w S g s x v l h hv hx
theorem Rowz.lit (w : World) (e : TypeId) (vs : List Value) (hl : vs.length ≤ maxLen) : Rowz (w.alloc (.cells vs.toArray e)) (.slice (some ⟨w.heap.size, 0, none⟩) vs.length vs.length) vs := by
  refine ⟨_, vs.length, rfl, Nat.le_refl _, hl, .inr ⟨w.heap.size, 0, rfl, by simp, fun j hj => ?_⟩⟩
  rw [Nat.zero_add, cell_of_row _ _ _ _ _ _ (heap_alloc_new w _)]
  simp [hj]
/-- 'string(v)', to be laid ahead of a walk. -/
theorem stext_of {w : World} {v : Value} {l : List UInt8} (h : Byt w v l) : (convert 29 9 v).run Try.prog w = .ok (.string ⟨l.toArray⟩) w :=
  run_text w 29 9 5 Try.underlying29 Try.underlying5 Try.underlying9 v l h
/-- A disk's blocks are all of the call's own. -/
theorem Done.own {w : World} {S : Nat → Prop} {g : Nat} {r : Nat × St} {e : Ending} {w' : World} {B : Nat} (h : Done w S g r e w') (hB : B ≤ w.heap.size) (hS : ∀ k, S k → B ≤ k) :
    e = .returned (.int .i64 ((r.1 : Nat) : Int)) ∧ ∃ S', Dsk w' S' g r.2 ∧ (∀ k, S' k → B ≤ k) ∧ (∀ k, S' k → k < w.heap.size → S k) ∧ Trn S w w' :=
  ⟨h.1, more S w w', h.2.1, fun k hk => hk.elim (hS k) (fun hk => Nat.le_trans hB hk.1), fun _ hk hl => hk.elim id (fun hk => by omega), h.2.2⟩

end Go.Proofs.Ytmfcckmcbmlhmaa
