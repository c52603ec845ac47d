/-
  tallymankit.Own and the document's own Number, Word, Block and Size of layer 1 by their contracts. Conditions: the bytes together are fewer than 2^45.
-/
import Derived.Test.YtledbkohbjefhaaOct3
namespace Go.Proofs.Ytledbkohbjefhaa
open Go.RowKit

theorem Own.empty (w : World) : Own (w.alloc (.cells #[] 5)) w.heap.size 5 (.slice (some ⟨w.heap.size, 0, none⟩) 0 0) [] :=
  World.ownsRow_lit (base := w.heap.size) (e := 5) (size := 1) w #[] 0 (Nat.le_refl _) (by simp [maxLen]) rfl
theorem below_new (w : World) (o : Obj) : Below w.heap.size w (w.alloc o) := (Below.refl _ _).alloc (Nat.le_refl _) o

set_option maxHeartbeats 400000 in
theorem kitown_any (w : World) (x : Value) (l : List UInt8) (hx : Byt w x l) (hlen : l.length ≤ 70368744177664) :
    Calls Try.prog 18 #[x] w (Made w l) := by
  obtain ⟨i0, hi0, hz0, hz1, hz2⟩ := info_parts uinfo
  have HX := Lib.hid hx
  clear hx
  have HE := Lib.hid (Own.empty w)
  go_enter Try.func18, Try.ntmps18
  go_wp2_with (at_builtin; refine wpList_app _ rfl (.tmp 3) (.tmp 4) _ rfl w.heap.size 5 i0 _ Try.underlying24 hi0 hz0 hz1 hz2 rfl _ [] rfl HE.out _ l rfl (HX.out.alloc _) (by simp; omega) (by simp) ?_; intro v1 w1 hown1 hg1 hat1; have hb1 := below_own (below_new w _) (by simp) HE.out hg1)
  go_ret
  exact made_mk (by simpa using hown1) hb1

def RNumRel (w : World) (l : List UInt8) (n : Nat) (i v : Value) (wr : World) : Prop :=
  ∃ (k m : Nat) (pre : List UInt8), k ≤ 9 ∧ m < 2 ^ (64 - 7 * k) ∧ i = .int .u64 m ∧ pre.length = k ∧ pre ++ numF (9 - k) m = numB n ∧ Own wr w.heap.size 5 v (l ++ pre) ∧ Below w.heap.size w wr

set_option maxRecDepth 100000 in
set_option maxHeartbeats 1000000 in
theorem refnumber_any (w : World) (x : Value) (l : List UInt8) (n : Nat) (hx : Byt w x l) (hn : n < 18446744073709551616) (hlen : l.length ≤ 35184372088832) :
    Calls Try.prog 19 #[x, .int .u64 n] w (Made w (l ++ numB n)) := by
  obtain ⟨i0, hi0, hz0, hz1, hz2⟩ := info_parts uinfo
  have HX := Lib.hid hx
  have HN := Lib.hid hn
  clear hx hn
  have HE := Lib.hid (Own.empty w)
  go_enter Try.func19, Try.ntmps19
  go_wp2_with (at_builtin; refine wpList_app _ rfl (.tmp 6) (.tmp 7) _ rfl w.heap.size 5 i0 _ Try.underlying24 hi0 hz0 hz1 hz2 rfl _ [] rfl HE.out _ l rfl (HX.out.alloc _) (by simp; omega) (by simp) ?_; intro v1 w1 hown1 hg1 hat1; have hb1 := below_own (below_new w _) (by simp) HE.out hg1)
  go_loopw [1, 5] (fun i v wr => RNumRel w l n i v wr) (fun i _ _ => (intOf i).toNat)
  case atStart => exact ⟨0, n, [], by omega, by simpa using HN.out, rfl, rfl, rfl, by simpa using hown1, hb1⟩
  case round =>
    obtain ⟨k, m, pre, hk, hm, rfl, hpl, hpre, hown, hbel⟩ := hrel
    have HP := Lib.hid hpre
    have HL := Lib.hid hpl
    have HM := Lib.hid hm
    have hpl10 : pre.length ≤ 9 := by omega
    clear hpre hpl hm
    by_cases hlt : 128 ≤ m
    · have hk9 : k < 9 := by
        rcases Nat.lt_or_ge k 9 with h | h
        · exact h
        · have := HM.out; have e : k = 9 := by omega
          subst e; simp at this; omega
      have h64 : m < 18446744073709551616 := by
        have h2 : (2 : Nat) ^ (64 - 7 * k) ≤ 2 ^ 64 := Nat.pow_le_pow_right (by omega) (by omega)
        exact Nat.lt_of_lt_of_le HM.out h2
      have HQ := Lib.hid (show IntKind.u64.wrap ((m : Int) / 128) = (m : Int) / 128 by rw [IntKind.wrap_u64]; omega)
      clear h64
      have HO := Lib.hid (show 128 + (m : Int) % 128 = ((UInt8.ofNat (m % 128 + 128)).toNat : Int) by rw [u8n]; omega)
      obtain ⟨b, hb⟩ : ∃ b, b = UInt8.ofNat (m % 128 + 128) := ⟨_, rfl⟩
      rw [← hb] at HO
      have HB := Lib.hid hb
      clear hb
      go_wp2_with (at_builtin; refine wpList_app _ rfl (.tmp 11) (.tmp 16) _ rfl w.heap.size 5 i0 _ Try.underlying24 hi0 hz0 hz1 hz2 rfl _ _ rfl (World.ownsRow.alloc hown _) (.slice (some ⟨wr.heap.size, 0, none⟩) 1 1) [b] rfl (Byt.lit1 _ _ _ _ _ HO.out) (by simp; omega) (by have := hbel.size; simp; omega) ?_; intro v1 w1 hown1 hg1 hat1; have hb1 := below_own (hbel.alloc hbel.size _) (by have := hbel.size; simp; omega) (World.ownsRow.alloc hown _) hg1)
      go_roundw
      case rel =>
        refine ⟨k + 1, m / 128, pre ++ [b], by omega, ?_, by rw [HQ.out]; go_num, by simp [HL.out], ?_, by simpa using hown1, hb1⟩
        · have := HM.out
          have e : 64 - 7 * k = (64 - 7 * (k + 1)) + 7 := by omega
          rw [e, Nat.pow_add] at this
          exact Nat.div_lt_of_lt_mul (by rw [Nat.mul_comm]; exact this)
        · have := HP.out
          have e : 9 - k = (9 - (k + 1)) + 1 := by omega
          rw [e, numF_step _ _ hlt, ← HB.out] at this
          rw [List.append_assoc]
          exact this
      case measure => simp [intOf, HQ.out]; omega
    · have HO := Lib.hid (byte_nat m (by omega))
      obtain ⟨b, hb⟩ : ∃ b, b = UInt8.ofNat m := ⟨_, rfl⟩
      rw [← hb] at HO
      have hfin : pre ++ [b] = numB n := by
        have := HP.out
        rw [numF_small _ _ (by omega), ← hb] at this
        exact this
      have HF := Lib.hid hfin
      clear hb hfin
      go_wp2_with (at_builtin; refine wpList_app _ rfl (.tmp 20) (.tmp 23) _ rfl w.heap.size 5 i0 _ Try.underlying24 hi0 hz0 hz1 hz2 rfl _ _ rfl (World.ownsRow.alloc hown _) (.slice (some ⟨wr.heap.size, 0, none⟩) 1 1) [b] rfl (Byt.lit1 _ _ _ _ _ HO.out) (by simp; omega) (by have := hbel.size; simp; omega) ?_; intro v1 w1 hown1 hg1 hat1; have hb1 := below_own (hbel.alloc hbel.size _) (by have := hbel.size; simp; omega) (World.ownsRow.alloc hown _) hg1)
      go_ret
      refine made_mk ?_ hb1
      rw [← HF.out]
      simpa using hown1

theorem refsize_any (w : World) (n : Nat) (hn : n < 18446744073709551616) :
    Calls Try.prog 23 #[.int .u64 n] w fun e w' => e = .returned (.int .i64 ((numB n).length : Int)) ∧ Below w.heap.size w w' := by
  have H := Lib.hid (refnumber_any w (.slice none 0 0) [] n (Byt.nil _) hn (by simp))
  clear hn
  go_enter Try.func23, Try.ntmps23
  go_wp2_with fail
  refine (H.out).mono ?_
  rintro x w1 ⟨v1, rfl, ho1, hb1⟩
  obtain ⟨A1, n1, c1, rfl, HN1, _, _⟩ := ho1.byt.form
  go_wp2_with fail
  go_ret
  exact ⟨by rw [show n1 = (numB n).length from HN1.out]; rfl, hb1⟩

def RWordRel (w : World) (l : List UInt8) (n k : Nat) (v i : Value) (wr : World) : Prop :=
  ∃ j : Nat, j ≤ k ∧ i = .int .i64 (j : Int) ∧ Own wr w.heap.size 5 v (l ++ wordB j n) ∧ Below w.heap.size w wr

set_option maxRecDepth 100000 in
set_option maxHeartbeats 1000000 in
theorem refword_is (w : World) (x : Value) (l : List UInt8) (n k : Nat) (hx : Byt w x l) (hn : n < 18446744073709551616) (hk : k = 2 ∨ k = 4 ∨ k = 8) (hlen : l.length ≤ 35184372088832) :
    Calls Try.prog 20 #[x, .int .u64 n, .int .i64 (k : Int)] w (Made w (l ++ wordB k n)) := by
  obtain ⟨i0, hi0, hz0, hz1, hz2⟩ := info_parts uinfo
  have HX := Lib.hid hx
  have HN := Lib.hid hn
  have HE := Lib.hid (Own.empty w)
  have hk8 : k ≤ 8 := by omega
  have key : ∀ b2 b4 b8 : Bool, ((k : Int) != 2) = b2 → ((k : Int) != 4) = b4 → ((k : Int) != 8) = b8 → (b2 && b4 && b8) = false →
      Calls Try.prog 20 #[x, .int .u64 n, .int .i64 (k : Int)] w (Made w (l ++ wordB k n)) := by
    intro b2 b4 b8 e2 e4 e8 hb
    clear hx hn hk
    cases b2 <;> cases b4 <;> cases b8 <;> simp only [Bool.and_true, Bool.and_false, Bool.and_self, reduceCtorEq] at hb
    all_goals
      clear hb
      go_enter Try.func20, Try.ntmps20
      go_wp2_with (at_builtin; refine wpList_app _ rfl (.tmp 9) (.tmp 10) _ rfl w.heap.size 5 i0 _ Try.underlying24 hi0 hz0 hz1 hz2 rfl _ [] rfl HE.out _ l rfl (HX.out.alloc _) (by simp; omega) (by simp) ?_; intro v1 w1 hown1 hg1 hat1; have hb1 := below_own (below_new w _) (by simp) HE.out hg1)
      go_loopw [7, 8] (fun v i wr => RWordRel w l n k v i wr) (fun _ i _ => k - (intOf i).toNat)
      case atStart => exact ⟨0, by omega, rfl, by simpa [wordB] using hown1, hb1⟩
      case round =>
        obtain ⟨j, hj, rfl, hown, hbel⟩ := hrel
        have hwl : (wordB j n).length ≤ 8 := by rw [wordB_len]; omega
        by_cases hlt : j < k
        · have HO := Lib.hid (byte_shift n j)
          have HS := Lib.hid (wordB_snoc j n)
          obtain ⟨b, hb⟩ : ∃ b, b = UInt8.ofNat (n / 256 ^ j % 256) := ⟨_, rfl⟩
          rw [← hb] at HO HS
          clear hb
          go_wp2_with (at_builtin; refine wpList_app _ rfl (.tmp 28) (.tmp 35) _ rfl w.heap.size 5 i0 _ Try.underlying24 hi0 hz0 hz1 hz2 rfl _ _ rfl (World.ownsRow.alloc hown _) (.slice (some ⟨wr.heap.size, 0, none⟩) 1 1) [b] rfl (Byt.lit1 _ _ _ _ _ HO.out) (by simp; omega) (by have := hbel.size; simp; omega) ?_; intro v1 w1 hown1 hg1 hat1; have hb1 := below_own (hbel.alloc hbel.size _) (by have := hbel.size; simp; omega) (World.ownsRow.alloc hown _) hg1)
          go_roundw
          case rel => exact ⟨j + 1, by omega, by go_num, by rw [HS.out]; simpa using hown1, hb1⟩
          case measure => simp [intOf]; omega
        · obtain rfl : j = k := by omega
          go_wp2_with fail
          go_ret
          exact made_mk hown hbel
  refine key _ _ _ rfl rfl rfl ?_
  rcases hk with rfl | rfl | rfl <;> rfl

set_option maxHeartbeats 400000 in
theorem refword_not (w : World) (x : Value) (l : List UInt8) (n : Nat) (k : Int) (hx : Byt w x l) (hk : k ≠ 2 ∧ k ≠ 4 ∧ k ≠ 8) (hlen : l.length ≤ 35184372088832) :
    Calls Try.prog 20 #[x, .int .u64 n, .int .i64 k] w (Made w l) := by
  obtain ⟨i0, hi0, hz0, hz1, hz2⟩ := info_parts uinfo
  have HX := Lib.hid hx
  have HE := Lib.hid (Own.empty w)
  have e2 : (k != 2) = true := by simp; omega
  have e4 : (k != 4) = true := by simp; omega
  have e8 : (k != 8) = true := by simp; omega
  clear hx hk
  go_enter Try.func20, Try.ntmps20
  go_wp2_with (at_builtin; refine wpList_app _ rfl (.tmp 9) (.tmp 10) _ rfl w.heap.size 5 i0 _ Try.underlying24 hi0 hz0 hz1 hz2 rfl _ [] rfl HE.out _ l rfl (HX.out.alloc _) (by simp; omega) (by simp) ?_; intro v1 w1 hown1 hg1 hat1; have hb1 := below_own (below_new w _) (by simp) HE.out hg1)
  go_ret
  exact made_mk (by simpa using hown1) hb1

theorem refword_any (w : World) (x : Value) (l : List UInt8) (n : Nat) (k : Int) (hx : Byt w x l) (hn : n < 18446744073709551616) (hlen : l.length ≤ 35184372088832) :
    Calls Try.prog 20 #[x, .int .u64 n, .int .i64 k] w (Made w (l ++ wordK k n)) := by
  unfold wordK
  by_cases h : k = 2 ∨ k = 4 ∨ k = 8
  · rw [if_pos h]
    obtain ⟨j, rfl⟩ := Int.eq_ofNat_of_zero_le (show 0 ≤ k by omega)
    exact refword_is w x l n j hx hn (by omega) hlen
  · rw [if_neg h, List.append_nil]
    exact refword_not w x l n k hx (by omega) hlen

set_option maxHeartbeats 400000 in
theorem refblock_any (w : World) (x y : Value) (l m : List UInt8) (hx : Byt w x l) (hy : Byt w y m) (hlen : l.length + m.length ≤ 17592186044416) :
    Calls Try.prog 22 #[x, y] w (Made w (l ++ numB m.length ++ m)) := by
  obtain ⟨i0, hi0, hz0, hz1, hz2⟩ := info_parts uinfo
  have hy' := hy
  obtain ⟨A', c', rfl, h1', h2', h3'⟩ := hy'
  have HX := Lib.hid hx
  have HY := Lib.hid hy
  have hn := numB_len m.length
  have HN := Lib.hid (refnumber_any w x l m.length hx (by omega) (by omega))
  clear h3' hx hy
  unfold maxLen at h2'
  go_enter Try.func22, Try.ntmps22
  go_wp2_with fail
  refine (HN.out).mono ?_
  rintro x w1 ⟨v1, rfl, ho1, hb1⟩
  go_wp2_with (at_builtin; refine wpList_app _ rfl (.tmp 9) (.tmp 10) _ rfl w.heap.size 5 i0 _ Try.underlying24 hi0 hz0 hz1 hz2 rfl _ _ rfl ho1 (.slice A' m.length c') m rfl (HY.out.below hb1) (by simp; omega) hb1.size ?_; intro v2 w2 hown2 hg2 hat2; have hb2 := below_own hb1 hb1.size ho1 hg2)
  go_ret
  exact made_mk (by simpa using hown2) hb2
end Go.Proofs.Ytledbkohbjefhaa
