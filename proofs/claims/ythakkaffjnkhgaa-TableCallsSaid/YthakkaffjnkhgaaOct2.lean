/-
  octet.Number, octet.Word and octet.Block by their contracts: b's bytes, and the number, the word, the block behind them. Conditions: the bytes together are fewer than 2^45.
-/
import Derived.Test.YthakkaffjnkhgaaOct1
import Derived.Test.YthakkaffjnkhgaaNum
namespace Go.Proofs.Ythakkaffjnkhgaa
open Go.RowKit
set_option maxRecDepth 100000

def NumRel (w : World) (n : Nat) (i v : Value) (wr : World) : Prop :=
  ∃ (k m : Nat) (pre : List UInt8), k ≤ 9 ∧ m < 2 ^ (64 - 7 * k) ∧ i = .int .u64 m ∧ pre.length = k ∧ pre ++ numF (9 - k) m = numB n ∧ Own wr w.heap.size 5 v pre ∧ Below w.heap.size w wr

set_option maxRecDepth 100000 in
set_option maxHeartbeats 1000000 in
theorem number_any (w : World) (x : Value) (l : List UInt8) (n : Nat) (hx : Byt w x l) (hn : n < 18446744073709551616) (hlen : l.length ≤ 35184372088832) :
    Calls Try.prog 41 #[x, .int .u64 n] w (Made w (l ++ numB n)) := by
  obtain ⟨i0, hi0, hz0, hz1, hz2⟩ := info_parts uinfo
  have HX := Lib.hid hx
  have HN := Lib.hid hn
  clear hx hn
  go_enter Try.func41, Try.ntmps41
  go_wp2_with (first
    | (at_make; refine wpList_make_own _ rfl _ _ 30 rfl w.heap.size 5 i0 _ 1 Try.underlying30 hi0 hz0 hz1 _ _ _ 10 rfl rfl (by omega) (by rw [hz2]; omega) (by simp only [maxLen]; omega) (Nat.le_refl _) ?_; intro w1 hown1 hg1))
  go_loopw [1, 5] (fun i v wr => NumRel w n i v wr) (fun i _ _ => (intOf i).toNat)
  case atStart => exact ⟨0, n, [], by omega, by simpa using HN.out, rfl, rfl, rfl, hown1, below_none hg1⟩
  case round =>
    obtain ⟨k, m, pre, hk, hm, rfl, hpl, hpre, hown, hbel⟩ := hrel
    have HP := Lib.hid hpre
    have HL := Lib.hid hpl
    have HM := Lib.hid hm
    clear hpre hpl hm
    have hpl10 : pre.length ≤ 9 := by have := HL.out; omega
    by_cases hlt : 128 ≤ m
    · have hk9 : k < 9 := by
        rcases Nat.lt_or_ge k 9 with h | h
        · exact h
        · have := HM.out; have e : k = 9 := by omega
          subst e; simp at this; omega
      have HO := Lib.hid (or128_nat m)
      obtain ⟨b, hb⟩ : ∃ b, b = UInt8.ofNat (m % 128 + 128) := ⟨_, rfl⟩
      rw [← hb] at HO
      have HB := Lib.hid hb
      clear hb
      go_wp2_with (at_builtin; refine wpList_app _ rfl (.tmp 11) (.tmp 15) _ rfl w.heap.size 5 i0 _ Try.underlying30 hi0 hz0 hz1 hz2 rfl _ pre rfl (World.ownsRow.alloc hown _) (.slice (some ⟨wr.heap.size, 0, none⟩) 1 1) [b] rfl (Byt.lit1 _ _ _ _ _ HO.out) (by simp; omega) (by have := hbel.size; simp; omega) ?_; intro v1 w1 hown1 hg1 hat1; have hb1 := below_own (hbel.alloc hbel.size _) (by have := hbel.size; simp; omega) (World.ownsRow.alloc hown _) hg1)
      go_roundw
      case rel =>
        refine ⟨k + 1, m / 128, pre ++ [b], by omega, ?_, by go_num, by simp [HL.out], ?_, hown1, hb1⟩
        · have := HM.out
          have e : 64 - 7 * k = (64 - 7 * (k + 1)) + 7 := by omega
          rw [e, Nat.pow_add] at this
          exact Nat.div_lt_of_lt_mul (by rw [Nat.mul_comm]; exact this)
        · have := HP.out
          have e : 9 - k = (9 - (k + 1)) + 1 := by omega
          rw [e, numF_step _ _ hlt, ← HB.out] at this
          rw [List.append_assoc]
          exact this
      case measure => simp [intOf]; omega
    · have HO := Lib.hid (byte_nat m (by omega))
      obtain ⟨b, hb⟩ : ∃ b, b = UInt8.ofNat m := ⟨_, rfl⟩
      rw [← hb] at HO
      have hfin : pre ++ [b] = numB n := by
        have := HP.out
        rw [numF_small _ _ (by omega), ← hb] at this
        exact this
      have HF := Lib.hid hfin
      clear hb hfin
      go_wp2_with (first
        | (at_builtin; refine wpList_app _ rfl (.tmp 18) (.tmp 21) _ rfl w.heap.size 5 i0 _ Try.underlying30 hi0 hz0 hz1 hz2 rfl _ pre rfl (World.ownsRow.alloc hown _) (.slice (some ⟨wr.heap.size, 0, none⟩) 1 1) [b] rfl (Byt.lit1 _ _ _ _ _ HO.out) (by simp; omega) (by have := hbel.size; simp; omega) ?_; intro v1 w1 hown1 hg1 hat1; have hb1 := below_own (hbel.alloc hbel.size _) (by have := hbel.size; simp; omega) (World.ownsRow.alloc hown _) hg1)
        | (go_at_call 47; refine (behind_any _ _ _ l (pre ++ [b]) (HX.out.below hb1) hown1.byt (by simp; omega)).mono ?_; rintro e w2 ⟨v2, rfl, hown2, hb2⟩))
      go_ret
      refine made_mk ?_ (hb1.trans (hb2.mono hb1.size))
      rw [← HF.out]
      exact Own.lower hown2 hb1.size

def WordRel (w : World) (n k : Nat) (v i : Value) (wr : World) : Prop :=
  ∃ j : Nat, j ≤ k ∧ i = .int .i64 ((8 * j : Nat) : Int) ∧ Own wr w.heap.size 5 v (wordB j n) ∧ Below w.heap.size w wr

end Go.Proofs.Ythakkaffjnkhgaa
