/-
  octet.Number, octet.Word and octet.Block by their contracts: b's bytes, and the number, the word, the block behind them. Conditions: the bytes together are fewer than 2^45.
-/
import Derived.Test.YtncjobeahpjnpaaOct1
import Derived.Test.YtncjobeahpjnpaaNum
namespace Go.Proofs.Ytncjobeahpjnpaa
open Go.RowKit
set_option maxRecDepth 100000

def NumRel (w : World) (n : Nat) (i v : Value) (wr : World) : Prop :=
  ∃ (k m : Nat) (pre : List UInt8), k ≤ 9 ∧ m < 2 ^ (64 - 7 * k) ∧ i = .int .u64 m ∧ pre.length = k ∧ pre ++ numF (9 - k) m = numB n ∧ Own wr w.heap.size 5 v pre ∧ Below w.heap.size w wr

def WordRel (w : World) (n k : Nat) (v i : Value) (wr : World) : Prop :=
  ∃ j : Nat, j ≤ k ∧ i = .int .i64 ((8 * j : Nat) : Int) ∧ Own wr w.heap.size 5 v (wordB j n) ∧ Below w.heap.size w wr

set_option maxRecDepth 100000 in
set_option maxHeartbeats 1000000 in
theorem word_is (w : World) (x : Value) (l : List UInt8) (n k : Nat) (hx : Byt w x l) (hn : n < 18446744073709551616) (hk : k = 2 ∨ k = 4 ∨ k = 8) (hlen : l.length ≤ 35184372088832) :
    Calls Try.prog 40 #[x, .int .u64 n, .int .i64 (k : Int)] w (Made w (l ++ wordB k n)) := by
  obtain ⟨i0, hi0, hz0, hz1, hz2⟩ := info_parts uinfo
  have HX := Lib.hid hx
  have HN := Lib.hid hn
  have hw : ((k : Int) == 2 || (k : Int) == 4 || (k : Int) == 8) = true := by rcases hk with rfl | rfl | rfl <;> rfl
  have HW := Lib.hid hw
  have hk8 : k ≤ 8 := by omega
  clear hx hn hk hw
  go_enter Try.func40, Try.ntmps40
  go_wp2_with (first
    | (go_at_call 53; refine (isWidth_any _ _).mono ?_; rintro e w1 ⟨rfl, rfl⟩; rw [HW.out])
    | (at_make; refine wpList_make_own _ rfl _ _ 36 rfl w.heap.size 5 i0 _ 1 Try.underlying36 hi0 hz0 hz1 _ _ _ k rfl rfl (by omega) (by rw [hz2]; omega) (by simp only [maxLen]; omega) (Nat.le_refl _) ?_; intro w1 hown1 hg1))
  go_loopw [7, 8] (fun v i wr => WordRel w n k v i wr) (fun _ i _ => 8 * k - (intOf i).toNat)
  case atStart => exact ⟨0, by omega, rfl, hown1, below_none hg1⟩
  case round =>
    obtain ⟨j, hj, rfl, hown, hbel⟩ := hrel
    have hwl : (wordB j n).length ≤ 8 := by rw [wordB_len]; omega
    by_cases hlt : j < k
    · have HO := Lib.hid (byte_shift n j)
      have HS := Lib.hid (wordB_snoc j n)
      obtain ⟨b, hb⟩ : ∃ b, b = UInt8.ofNat (n / 256 ^ j % 256) := ⟨_, rfl⟩
      rw [← hb] at HO HS
      clear hb
      go_wp2_with (at_builtin; refine wpList_app _ rfl (.tmp 22) (.tmp 27) _ rfl w.heap.size 5 i0 _ Try.underlying36 hi0 hz0 hz1 hz2 rfl _ _ rfl (World.ownsRow.alloc hown _) (.slice (some ⟨wr.heap.size, 0, none⟩) 1 1) [b] rfl (Byt.lit1 _ _ _ _ _ HO.out) (by simp; omega) (by have := hbel.size; simp; omega) ?_; intro v1 w1 hown1 hg1 hat1; have hb1 := below_own (hbel.alloc hbel.size _) (by have := hbel.size; simp; omega) (World.ownsRow.alloc hown _) hg1)
      go_roundw
      case rel => exact ⟨j + 1, by omega, by go_num, by rw [HS.out]; exact hown1, hb1⟩
      case measure => simp [intOf]; omega
    · obtain rfl : j = k := by omega
      go_wp2_with (go_at_call 54; refine (behind_any _ _ _ l (wordB j n) (HX.out.below hbel) hown.byt (by omega)).mono ?_; rintro e w2 ⟨v2, rfl, hown2, hb2⟩)
      go_ret
      exact made_mk (Own.lower hown2 hbel.size) (hbel.trans (hb2.mono hbel.size))

theorem word_not (w : World) (x : Value) (l : List UInt8) (n : Nat) (k : Int) (hx : Byt w x l) (hk : k ≠ 2 ∧ k ≠ 4 ∧ k ≠ 8) (hlen : l.length ≤ 35184372088832) :
    Calls Try.prog 40 #[x, .int .u64 n, .int .i64 k] w (Made w l) := by
  have HX := Lib.hid hx
  have hw : (k == 2 || k == 4 || k == 8) = false := by simp; omega
  have HW := Lib.hid hw
  clear hx hk hw
  go_enter Try.func40, Try.ntmps40
  go_wp2_with (first
    | (go_at_call 53; refine (isWidth_any _ _).mono ?_; rintro e w1 ⟨rfl, rfl⟩; rw [HW.out])
    | (go_at_call 54; refine (behind_one _ _ l HX.out (by omega)).mono ?_; rintro e w2 ⟨v2, rfl, hown2, hb2⟩))
  go_ret
  exact made_mk hown2 hb2

theorem word_any (w : World) (x : Value) (l : List UInt8) (n : Nat) (k : Int) (hx : Byt w x l) (hn : n < 18446744073709551616) (hlen : l.length ≤ 35184372088832) :
    Calls Try.prog 40 #[x, .int .u64 n, .int .i64 k] w (Made w (l ++ wordK k n)) := by
  unfold wordK
  by_cases h : k = 2 ∨ k = 4 ∨ k = 8
  · rw [if_pos h]
    obtain ⟨j, rfl⟩ := Int.eq_ofNat_of_zero_le (show 0 ≤ k by omega)
    exact word_is w x l n j hx hn (by omega) hlen
  · rw [if_neg h, List.append_nil]
    exact word_not w x l n k hx (by omega) hlen

end Go.Proofs.Ytncjobeahpjnpaa
