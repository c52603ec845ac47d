/-
  What calls make and leave, and the kit's own two small functions: Own (a copy of bytes), Pick (a place among so many). Conditions: bytes are fewer than 2^46.
-/
import Derived.Test.YthakkaffjnkhgaaBase
import Derived.IntWalk
namespace Go.Proofs.Ythakkaffjnkhgaa
open Go.RowKit
set_option maxRecDepth 100000

theorem uinfo : (Try.prog.info? 5).map (fun i => (i.zero, i.size, i.bytes)) = some (some (.int .u8 0), 1, 1) := by kernel_rfl

/-- What a call that makes a list of bytes of its own leaves. -/
def Made (w : World) (l : List UInt8) (e : Ending) (w' : World) : Prop :=
  ∃ v, e = .returned v ∧ Own w' w.heap.size 5 v l ∧ Below w.heap.size w w'
theorem made_mk {w w' : World} {v : Value} {l : List UInt8} (ho : Own w' w.heap.size 5 v l) (hb : Below w.heap.size w w') : Made w l (.returned v) w' := ⟨v, rfl, ho, hb⟩

theorem made_list {w : World} {l m : List UInt8} {e : Ending} {w' : World} (h : Made w l e w') (hl : l = m) : Made w m e w' := hl ▸ h

theorem Own.empty (w : World) : Own (w.alloc (.cells #[] 5)) w.heap.size 5 (.slice (some ⟨w.heap.size, 0, none⟩) 0 0) [] :=
  World.ownsRow_lit (base := w.heap.size) (e := 5) (size := 1) w #[] 0 (Nat.le_refl _) (by simp [maxLen]) rfl
theorem below_new (w : World) (o : Obj) : Below w.heap.size w (w.alloc o) := (Below.refl _ _).alloc (Nat.le_refl _) o

set_option maxHeartbeats 400000 in
theorem kitown_any (w : World) (x : Value) (l : List UInt8) (hx : Byt w x l) (hlen : l.length ≤ 70368744177664) :
    Calls Try.prog 25 #[x] w (Made w l) := by
  obtain ⟨i0, hi0, hz0, hz1, hz2⟩ := info_parts uinfo
  have HX := Lib.hid hx
  clear hx
  have HE := Lib.hid (Own.empty w)
  go_enter Try.func25, Try.ntmps25
  go_wp2_with (at_builtin; refine wpList_app _ rfl (.tmp 3) (.tmp 4) _ rfl w.heap.size 5 i0 _ Try.underlying30 hi0 hz0 hz1 hz2 rfl _ [] rfl HE.out _ l rfl (HX.out.alloc _) (by simp; omega) (by simp) ?_; intro v1 w1 hown1 hg1 hat1; have hb1 := below_own (below_new w _) (by simp) HE.out hg1)
  go_ret
  exact made_mk (by simpa using hown1) hb1

theorem sizeByte : ∀ W, (sizeOf (Try.prog.elem 30)).run Try.prog W = .ok 1 W := fun _ => by kernel_rfl
theorem elemByte : Try.prog.underlying 30 = some (.slice (Try.prog.elem 30)) := by kernel_rfl

theorem ret_int {k : IntKind} {a b : Int} (h : a = b) : Ending.returned (.int k a) = .returned (.int k b) := by rw [h]

theorem ne_int {a b : Nat} (h : a ≠ b) : ((a : Int) == (b : Int)) = false := by
  rw [beq_eq_false_iff_ne]; omega

theorem pick_is (x n : Int) (hn : 1 ≤ n) : (if x.tmod n < 0 then x.tmod n + n else x.tmod n) = x % n := by
  have h1 := Int.emod_lt_of_pos x (show 0 < n by omega)
  have h2 := Int.emod_nonneg x (show n ≠ 0 by omega)
  have h3 := Int.tmod_eq_emod (a := x) (b := n)
  split at h3
  · rw [if_neg (by omega)]; omega
  · rename_i h4
    have h5 : (n.natAbs : Int) = n := by omega
    have h6 : x % n ≠ 0 := fun h => h4 (.inr (Int.dvd_of_emod_eq_zero h))
    rw [if_pos (by omega)]; omega

theorem pick_any (x n : Int) (w : World) (hn : 1 ≤ n) (hn2 : n ≤ 9223372036854775807) :
    Calls Try.prog 30 #[.int .i64 (x : Int), .int .i64 n] w fun e w' => e = .returned (.int .i64 (x % n)) ∧ w = w' := by
  have HB := Lib.hid (pick_is x n hn)
  have HC := Lib.hid (Int.emod_lt_of_pos x (show 0 < n by omega))
  have HD := Lib.hid (Int.emod_nonneg x (show n ≠ 0 by omega))
  go_enter Try.func30, Try.ntmps30
  go_wp2
  · go_ret
    exact ⟨ret_int (by have := HB.out; rw [if_pos ‹_›] at this; have := HC.out; have := HD.out; unfold wrap64; omega), rfl⟩
  · go_ret
    exact ⟨ret_int (by rw [← HB.out, if_neg (by omega)]), rfl⟩
end Go.Proofs.Ythakkaffjnkhgaa
