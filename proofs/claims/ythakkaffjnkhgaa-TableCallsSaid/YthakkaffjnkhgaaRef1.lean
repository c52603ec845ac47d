/-
  tallymankit.Own and the document's own Number, Word, Block and Size of layer 1 by their contracts. Conditions: the bytes together are fewer than 2^45.
-/
import Derived.Test.YthakkaffjnkhgaaOct2
namespace Go.Proofs.Ythakkaffjnkhgaa
open Go.RowKit
set_option maxRecDepth 100000

def RNumRel (w : World) (l : List UInt8) (n : Nat) (i v : Value) (wr : World) : Prop :=
  ∃ (k m : Nat) (pre : List UInt8), k ≤ 9 ∧ m < 2 ^ (64 - 7 * k) ∧ i = .int .u64 m ∧ pre.length = k ∧ pre ++ numF (9 - k) m = numB n ∧ Own wr w.heap.size 5 v (l ++ pre) ∧ Below w.heap.size w wr

set_option maxRecDepth 100000 in
set_option maxHeartbeats 1000000 in
theorem refnumber_any (w : World) (x : Value) (l : List UInt8) (n : Nat) (hx : Byt w x l) (hn : n < 18446744073709551616) (hlen : l.length ≤ 35184372088832) :
    Calls Try.prog 42 #[x, .int .u64 n] w (Made w (l ++ numB n)) := by
  obtain ⟨i0, hi0, hz0, hz1, hz2⟩ := info_parts uinfo
  have HX := Lib.hid hx
  have HN := Lib.hid hn
  clear hx hn
  have HE := Lib.hid (Own.empty w)
  go_enter Try.func42, Try.ntmps42
  go_wp2_with (at_builtin; refine wpList_app _ rfl (.tmp 6) (.tmp 7) _ rfl w.heap.size 5 i0 _ Try.underlying30 hi0 hz0 hz1 hz2 rfl _ [] rfl HE.out _ l rfl (HX.out.alloc _) (by simp; omega) (by simp) ?_; intro v1 w1 hown1 hg1 hat1; have hb1 := below_own (below_new w _) (by simp) HE.out hg1)
  go_loopw [1, 5] (fun i v wr => RNumRel w l n i v wr) (fun i _ _ => (intOf i).toNat)
  case atStart => exact ⟨0, n, [], by omega, by simpa using HN.out, rfl, rfl, rfl, by simpa using hown1, hb1⟩
  case round =>
    obtain ⟨k, m, pre, hk, hm, rfl, hpl, hpre, hown, hbel⟩ := hrel
    have HP := Lib.hid hpre
    have HL := Lib.hid hpl
    have HM := Lib.hid hm
    have hpl10 : pre.length ≤ 9 := by omega
    clear hpre hpl hm
    by_cases hlt : 128 ≤ m
    · have hk9 : k < 9 := by
        rcases Nat.lt_or_ge k 9 with h | h
        · exact h
        · have := HM.out; have e : k = 9 := by omega
          subst e; simp at this; omega
      have h64 : m < 18446744073709551616 := by
        have h2 : (2 : Nat) ^ (64 - 7 * k) ≤ 2 ^ 64 := Nat.pow_le_pow_right (by omega) (by omega)
        exact Nat.lt_of_lt_of_le HM.out h2
      have HQ := Lib.hid (show IntKind.u64.wrap ((m : Int) / 128) = (m : Int) / 128 by rw [IntKind.wrap_u64]; omega)
      clear h64
      have HO := Lib.hid (show 128 + (m : Int) % 128 = ((UInt8.ofNat (m % 128 + 128)).toNat : Int) by rw [u8n]; omega)
      obtain ⟨b, hb⟩ : ∃ b, b = UInt8.ofNat (m % 128 + 128) := ⟨_, rfl⟩
      rw [← hb] at HO
      have HB := Lib.hid hb
      clear hb
      go_wp2_with (at_builtin; refine wpList_app _ rfl (.tmp 11) (.tmp 16) _ rfl w.heap.size 5 i0 _ Try.underlying30 hi0 hz0 hz1 hz2 rfl _ _ rfl (World.ownsRow.alloc hown _) (.slice (some ⟨wr.heap.size, 0, none⟩) 1 1) [b] rfl (Byt.lit1 _ _ _ _ _ HO.out) (by simp; omega) (by have := hbel.size; simp; omega) ?_; intro v1 w1 hown1 hg1 hat1; have hb1 := below_own (hbel.alloc hbel.size _) (by have := hbel.size; simp; omega) (World.ownsRow.alloc hown _) hg1)
      go_roundw
      case rel =>
        refine ⟨k + 1, m / 128, pre ++ [b], by omega, ?_, by rw [HQ.out]; go_num, by simp [HL.out], ?_, by simpa using hown1, hb1⟩
        · have := HM.out
          have e : 64 - 7 * k = (64 - 7 * (k + 1)) + 7 := by omega
          rw [e, Nat.pow_add] at this
          exact Nat.div_lt_of_lt_mul (by rw [Nat.mul_comm]; exact this)
        · have := HP.out
          have e : 9 - k = (9 - (k + 1)) + 1 := by omega
          rw [e, numF_step _ _ hlt, ← HB.out] at this
          rw [List.append_assoc]
          exact this
      case measure => simp [intOf, HQ.out]; omega
    · have HO := Lib.hid (byte_nat m (by omega))
      obtain ⟨b, hb⟩ : ∃ b, b = UInt8.ofNat m := ⟨_, rfl⟩
      rw [← hb] at HO
      have hfin : pre ++ [b] = numB n := by
        have := HP.out
        rw [numF_small _ _ (by omega), ← hb] at this
        exact this
      have HF := Lib.hid hfin
      clear hb hfin
      go_wp2_with (at_builtin; refine wpList_app _ rfl (.tmp 20) (.tmp 23) _ rfl w.heap.size 5 i0 _ Try.underlying30 hi0 hz0 hz1 hz2 rfl _ _ rfl (World.ownsRow.alloc hown _) (.slice (some ⟨wr.heap.size, 0, none⟩) 1 1) [b] rfl (Byt.lit1 _ _ _ _ _ HO.out) (by simp; omega) (by have := hbel.size; simp; omega) ?_; intro v1 w1 hown1 hg1 hat1; have hb1 := below_own (hbel.alloc hbel.size _) (by have := hbel.size; simp; omega) (World.ownsRow.alloc hown _) hg1)
      go_ret
      refine made_mk ?_ hb1
      rw [← HF.out]
      simpa using hown1

def RWordRel (w : World) (l : List UInt8) (n k : Nat) (v i : Value) (wr : World) : Prop :=
  ∃ j : Nat, j ≤ k ∧ i = .int .i64 (j : Int) ∧ Own wr w.heap.size 5 v (l ++ wordB j n) ∧ Below w.heap.size w wr

end Go.Proofs.Ythakkaffjnkhgaa
