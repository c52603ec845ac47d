/-
  tallymankit.Own and the document's own Number, Word, Block and Size of layer 1 by their contracts. Conditions: the bytes together are fewer than 2^45.
-/
import Derived.Test.YtncjobeahpjnpaaOct2
namespace Go.Proofs.Ytncjobeahpjnpaa
open Go.RowKit
set_option maxRecDepth 100000

def RNumRel (w : World) (l : List UInt8) (n : Nat) (i v : Value) (wr : World) : Prop :=
  ∃ (k m : Nat) (pre : List UInt8), k ≤ 9 ∧ m < 2 ^ (64 - 7 * k) ∧ i = .int .u64 m ∧ pre.length = k ∧ pre ++ numF (9 - k) m = numB n ∧ Own wr w.heap.size 5 v (l ++ pre) ∧ Below w.heap.size w wr

def RWordRel (w : World) (l : List UInt8) (n k : Nat) (v i : Value) (wr : World) : Prop :=
  ∃ j : Nat, j ≤ k ∧ i = .int .i64 (j : Int) ∧ Own wr w.heap.size 5 v (l ++ wordB j n) ∧ Below w.heap.size w wr

set_option maxRecDepth 100000 in
set_option maxHeartbeats 1000000 in
theorem refword_is (w : World) (x : Value) (l : List UInt8) (n k : Nat) (hx : Byt w x l) (hn : n < 18446744073709551616) (hk : k = 2 ∨ k = 4 ∨ k = 8) (hlen : l.length ≤ 35184372088832) :
    Calls Try.prog 42 #[x, .int .u64 n, .int .i64 (k : Int)] w (Made w (l ++ wordB k n)) := by
  obtain ⟨i0, hi0, hz0, hz1, hz2⟩ := info_parts uinfo
  have HX := Lib.hid hx
  have HN := Lib.hid hn
  have HE := Lib.hid (Own.empty w)
  have hk8 : k ≤ 8 := by omega
  have key : ∀ b2 b4 b8 : Bool, ((k : Int) != 2) = b2 → ((k : Int) != 4) = b4 → ((k : Int) != 8) = b8 → (b2 && b4 && b8) = false →
      Calls Try.prog 42 #[x, .int .u64 n, .int .i64 (k : Int)] w (Made w (l ++ wordB k n)) := by
    intro b2 b4 b8 e2 e4 e8 hb
    clear hx hn hk
    cases b2 <;> cases b4 <;> cases b8 <;> simp only [Bool.and_true, Bool.and_false, Bool.and_self, reduceCtorEq] at hb
    all_goals
      clear hb
      go_enter Try.func42, Try.ntmps42
      go_wp2_with (at_builtin; refine wpList_app _ rfl (.tmp 9) (.tmp 10) _ rfl w.heap.size 5 i0 _ Try.underlying36 hi0 hz0 hz1 hz2 rfl _ [] rfl HE.out _ l rfl (HX.out.alloc _) (by simp; omega) (by simp) ?_; intro v1 w1 hown1 hg1 hat1; have hb1 := below_own (below_new w _) (by simp) HE.out hg1)
      go_loopw [7, 8] (fun v i wr => RWordRel w l n k v i wr) (fun _ i _ => k - (intOf i).toNat)
      case atStart => exact ⟨0, by omega, rfl, by simpa [wordB] using hown1, hb1⟩
      case round =>
        obtain ⟨j, hj, rfl, hown, hbel⟩ := hrel
        have hwl : (wordB j n).length ≤ 8 := by rw [wordB_len]; omega
        by_cases hlt : j < k
        · have HO := Lib.hid (byte_shift n j)
          have HS := Lib.hid (wordB_snoc j n)
          obtain ⟨b, hb⟩ : ∃ b, b = UInt8.ofNat (n / 256 ^ j % 256) := ⟨_, rfl⟩
          rw [← hb] at HO HS
          clear hb
          go_wp2_with (at_builtin; refine wpList_app _ rfl (.tmp 28) (.tmp 35) _ rfl w.heap.size 5 i0 _ Try.underlying36 hi0 hz0 hz1 hz2 rfl _ _ rfl (World.ownsRow.alloc hown _) (.slice (some ⟨wr.heap.size, 0, none⟩) 1 1) [b] rfl (Byt.lit1 _ _ _ _ _ HO.out) (by simp; omega) (by have := hbel.size; simp; omega) ?_; intro v1 w1 hown1 hg1 hat1; have hb1 := below_own (hbel.alloc hbel.size _) (by have := hbel.size; simp; omega) (World.ownsRow.alloc hown _) hg1)
          go_roundw
          case rel => exact ⟨j + 1, by omega, by go_num, by rw [HS.out]; simpa using hown1, hb1⟩
          case measure => simp [intOf]; omega
        · obtain rfl : j = k := by omega
          go_wp2_with fail
          go_ret
          exact made_mk hown hbel
  refine key _ _ _ rfl rfl rfl ?_
  rcases hk with rfl | rfl | rfl <;> rfl

set_option maxHeartbeats 400000 in
theorem refword_not (w : World) (x : Value) (l : List UInt8) (n : Nat) (k : Int) (hx : Byt w x l) (hk : k ≠ 2 ∧ k ≠ 4 ∧ k ≠ 8) (hlen : l.length ≤ 35184372088832) :
    Calls Try.prog 42 #[x, .int .u64 n, .int .i64 k] w (Made w l) := by
  obtain ⟨i0, hi0, hz0, hz1, hz2⟩ := info_parts uinfo
  have HX := Lib.hid hx
  have HE := Lib.hid (Own.empty w)
  have e2 : (k != 2) = true := by simp; omega
  have e4 : (k != 4) = true := by simp; omega
  have e8 : (k != 8) = true := by simp; omega
  clear hx hk
  go_enter Try.func42, Try.ntmps42
  go_wp2_with (at_builtin; refine wpList_app _ rfl (.tmp 9) (.tmp 10) _ rfl w.heap.size 5 i0 _ Try.underlying36 hi0 hz0 hz1 hz2 rfl _ [] rfl HE.out _ l rfl (HX.out.alloc _) (by simp; omega) (by simp) ?_; intro v1 w1 hown1 hg1 hat1; have hb1 := below_own (below_new w _) (by simp) HE.out hg1)
  go_ret
  exact made_mk (by simpa using hown1) hb1

theorem refword_any (w : World) (x : Value) (l : List UInt8) (n : Nat) (k : Int) (hx : Byt w x l) (hn : n < 18446744073709551616) (hlen : l.length ≤ 35184372088832) :
    Calls Try.prog 42 #[x, .int .u64 n, .int .i64 k] w (Made w (l ++ wordK k n)) := by
  unfold wordK
  by_cases h : k = 2 ∨ k = 4 ∨ k = 8
  · rw [if_pos h]
    obtain ⟨j, rfl⟩ := Int.eq_ofNat_of_zero_le (show 0 ≤ k by omega)
    exact refword_is w x l n j hx hn (by omega) hlen
  · rw [if_neg h, List.append_nil]
    exact refword_not w x l n k hx (by omega) hlen

end Go.Proofs.Ytncjobeahpjnpaa
