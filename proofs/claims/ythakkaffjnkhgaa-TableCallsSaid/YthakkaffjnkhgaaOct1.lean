/-
  Package octet's small functions by their contracts: behind, isWidth. Conditions: the bytes together are fewer than 2^46.
-/
import Derived.Test.YthakkaffjnkhgaaMade
namespace Go.Proofs.Ythakkaffjnkhgaa
open Go.RowKit
set_option maxRecDepth 100000

set_option maxHeartbeats 400000 in
theorem behind_any (w : World) (x y : Value) (l m : List UInt8) (hx : Byt w x l) (hy : Byt w y m) (hlen : l.length + m.length ≤ 70368744177664) :
    Calls Try.prog 47 #[x, y] w (Made w (l ++ m)) := by
  obtain ⟨i0, hi0, hz0, hz1, hz2⟩ := info_parts uinfo
  have hx' := hx
  have hy' := hy
  obtain ⟨A, c, rfl, h1, h2, h3⟩ := hx'
  obtain ⟨A', c', rfl, h1', h2', h3'⟩ := hy'
  have HX := Lib.hid hx
  have HY := Lib.hid hy
  clear h3 h3' hx hy
  unfold maxLen at h2 h2'
  go_enter Try.func47, Try.ntmps47
  go_wp2_with (first
    | (at_make; refine wpList_make_own _ rfl _ _ 30 rfl w.heap.size 5 i0 _ 1 Try.underlying30 hi0 hz0 hz1 _ _ _ (l.length + m.length) rfl rfl (by omega) (by rw [hz2]; omega) (by simp only [maxLen]; omega) (Nat.le_refl _) ?_; intro w1 hown1 hg1)
    | (at_builtin; refine wpList_app _ rfl (.tmp 10) (.tmp 11) _ rfl w.heap.size 5 i0 _ Try.underlying30 hi0 hz0 hz1 hz2 rfl _ [] rfl hown1 (.slice A l.length c) l rfl (HX.out.below (below_none hg1)) (by simp; omega) hg1.size ?_; intro v2 w2 hown2 hg2 hat2; have hb2 : Below w.heap.size w w2 := below_own (below_none hg1) hg1.size hown1 hg2)
    | (at_builtin; refine wpList_app _ rfl (.tmp 12) (.tmp 13) _ rfl w.heap.size 5 i0 _ Try.underlying30 hi0 hz0 hz1 hz2 rfl _ l rfl hown2 (.slice A' m.length c') m rfl (HY.out.below hb2) (by omega) hb2.size ?_; intro v3 w3 hown3 hg3 hat3))
  go_ret
  exact made_mk hown3 (below_own hb2 hb2.size hown2 hg3)

theorem behind_one (w : World) (x : Value) (l : List UInt8) (hx : Byt w x l) (hlen : l.length ≤ 70368744177664) :
    Calls Try.prog 47 #[x, .slice none 0 0] w (Made w l) := by
  have h := behind_any w x (.slice none 0 0) l [] hx (Byt.nil w) (by simpa using hlen)
  rw [List.append_nil] at h
  exact h

end Go.Proofs.Ythakkaffjnkhgaa
