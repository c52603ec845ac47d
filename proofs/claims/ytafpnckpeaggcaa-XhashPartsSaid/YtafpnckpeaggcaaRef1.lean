/-
  tallymankit.Own and the document's own Number, Word, Block and Size of layer 1 by their contracts. Conditions: the bytes together are fewer than 2^45.
-/
import Derived.Test.YtafpnckpeaggcaaOct2
namespace Go.Proofs.Ytafpnckpeaggcaa
open Go.RowKit

theorem Own.empty (w : World) : Own (w.alloc (.cells #[] 5)) w.heap.size 5 (.slice (some ⟨w.heap.size, 0, none⟩) 0 0) [] :=
  World.ownsRow_lit (base := w.heap.size) (e := 5) (size := 1) w #[] 0 (Nat.le_refl _) (by simp [maxLen]) rfl
theorem below_new (w : World) (o : Obj) : Below w.heap.size w (w.alloc o) := (Below.refl _ _).alloc (Nat.le_refl _) o

set_option maxHeartbeats 400000 in
theorem kitown_any (w : World) (x : Value) (l : List UInt8) (hx : Byt w x l) (hlen : l.length ≤ 70368744177664) :
    Calls Try.prog 15 #[x] w (Made w l) := by
  obtain ⟨i0, hi0, hz0, hz1, hz2⟩ := info_parts uinfo
  have HX := Lib.hid hx
  clear hx
  have HE := Lib.hid (Own.empty w)
  go_enter Try.func15, Try.ntmps15
  go_wp2_with (at_builtin; refine wpList_app _ rfl (.tmp 3) (.tmp 4) _ rfl w.heap.size 5 i0 _ Try.underlying27 hi0 hz0 hz1 hz2 rfl _ [] rfl HE.out _ l rfl (HX.out.alloc _) (by simp; omega) (by simp) ?_; intro v1 w1 hown1 hg1 hat1; have hb1 := below_own (below_new w _) (by simp) HE.out hg1)
  go_ret
  exact made_mk (by simpa using hown1) hb1

def RNumRel (w : World) (l : List UInt8) (n : Nat) (i v : Value) (wr : World) : Prop :=
  ∃ (k m : Nat) (pre : List UInt8), k ≤ 9 ∧ m < 2 ^ (64 - 7 * k) ∧ i = .int .u64 m ∧ pre.length = k ∧ pre ++ numF (9 - k) m = numB n ∧ Own wr w.heap.size 5 v (l ++ pre) ∧ Below w.heap.size w wr

def RWordRel (w : World) (l : List UInt8) (n k : Nat) (v i : Value) (wr : World) : Prop :=
  ∃ j : Nat, j ≤ k ∧ i = .int .i64 (j : Int) ∧ Own wr w.heap.size 5 v (l ++ wordB j n) ∧ Below w.heap.size w wr

end Go.Proofs.Ytafpnckpeaggcaa
