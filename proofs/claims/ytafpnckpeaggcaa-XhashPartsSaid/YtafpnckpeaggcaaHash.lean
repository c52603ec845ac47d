/-
  The published hash of 64 bits as plain functions of numbers and bytes, and what a walk's own words for its steps come to. No program is named here.
-/
import Derived.Test.YtafpnckpeaggcaaNum
import Derived.Lib.Hide
import Derived.WalkKit
namespace Go.Proofs.Ytafpnckpeaggcaa
open Go.RowKit

def mulW (a b : Nat) : Nat := a * b % 18446744073709551616
def addW (a b : Nat) : Nat := (a + b) % 18446744073709551616
def subW (a b : Nat) : Nat := (a + (18446744073709551616 - b)) % 18446744073709551616
/-- A word turned left. -/
def rotW (x k : Nat) : Nat := x * 2 ^ k % 18446744073709551616 ||| x / 2 ^ (64 - k)
def xp1 : Nat := 11400714785074694791
def xp2 : Nat := 14029467366897019727
def xp3 : Nat := 1609587929392839161
def xp4 : Nat := 9650029242287828579
def xp5 : Nat := 2870177450012600261

def roundW (a w : Nat) : Nat := mulW (rotW (addW a (mulW w xp2)) 31) xp1
def mergeW (h a : Nat) : Nat := addW (mulW (h ^^^ roundW 0 a) xp1) xp4
def aval1 (h : Nat) : Nat := mulW (h ^^^ h / 8589934592) xp2
def aval2 (h : Nat) : Nat := mulW (h ^^^ h / 536870912) xp3
def avalW (h : Nat) : Nat := aval2 (aval1 h) ^^^ aval2 (aval1 h) / 4294967296

theorem mulW_lt (a b : Nat) : mulW a b < 18446744073709551616 := Nat.mod_lt _ (by omega)
theorem addW_lt (a b : Nat) : addW a b < 18446744073709551616 := Nat.mod_lt _ (by omega)
theorem subW_lt (a b : Nat) : subW a b < 18446744073709551616 := Nat.mod_lt _ (by omega)
theorem xor_lt {a b : Nat} (ha : a < 18446744073709551616) (hb : b < 18446744073709551616) : a ^^^ b < 18446744073709551616 := Nat.xor_lt_two_pow (n := 64) ha hb
theorem rotW_lt (x k : Nat) (hx : x < 18446744073709551616) : rotW x k < 18446744073709551616 :=
  Nat.or_lt_two_pow (n := 64) (Nat.mod_lt _ (by omega)) (Nat.lt_of_le_of_lt (Nat.div_le_self _ _) hx)
theorem roundW_lt (a w : Nat) : roundW a w < 18446744073709551616 := mulW_lt _ _
theorem mergeW_lt (h a : Nat) : mergeW h a < 18446744073709551616 := addW_lt _ _
theorem shr_lt {a : Nat} (k : Nat) (ha : a < 18446744073709551616) : a / k < 18446744073709551616 := Nat.lt_of_le_of_lt (Nat.div_le_self _ _) ha
theorem aval1_lt (a : Nat) : aval1 a < 18446744073709551616 := mulW_lt _ _
theorem aval2_lt (a : Nat) : aval2 a < 18446744073709551616 := mulW_lt _ _
theorem avalW_lt (a : Nat) : avalW a < 18446744073709551616 := xor_lt (aval2_lt _) (shr_lt _ (aval2_lt _))

/-! The walk's words. -/
theorem w_nat (c : Nat) : IntKind.u64.wrap (c : Int) = ((c % 18446744073709551616 : Nat) : Int) := by
  rw [IntKind.wrap_u64]; omega
theorem w_mul (a b : Nat) : IntKind.u64.wrap ((a : Int) * (b : Int)) = (mulW a b : Int) := by
  rw [← Int.natCast_mul]; exact w_nat _
theorem w_add (a b : Nat) : IntKind.u64.wrap ((a : Int) + (b : Int)) = (addW a b : Int) := by
  rw [← Int.natCast_add]; exact w_nat _
theorem w_add0 (c : Nat) : IntKind.u64.wrap (c : Int) = (addW 0 c : Int) := by
  rw [w_nat]; unfold addW; rw [Nat.zero_add]
theorem w_sub (a b : Nat) (hb : b ≤ 18446744073709551616) : IntKind.u64.wrap ((a : Int) - (b : Int)) = (subW a b : Int) := by
  rw [IntKind.wrap_u64]; unfold subW; omega
theorem w_p1 (a : Nat) : IntKind.u64.wrap ((a : Int) * 11400714785074694791) = (mulW a xp1 : Int) := w_mul a 11400714785074694791
theorem w_p2 (a : Nat) : IntKind.u64.wrap ((a : Int) * 14029467366897019727) = (mulW a xp2 : Int) := w_mul a 14029467366897019727
theorem w_p3 (a : Nat) : IntKind.u64.wrap ((a : Int) * 1609587929392839161) = (mulW a xp3 : Int) := w_mul a 1609587929392839161
theorem w_p5 (a : Nat) : IntKind.u64.wrap ((a : Int) * 2870177450012600261) = (mulW a xp5 : Int) := w_mul a 2870177450012600261
theorem w_a1 (a : Nat) : IntKind.u64.wrap ((a : Int) + 11400714785074694791) = (addW a xp1 : Int) := w_add a 11400714785074694791
theorem w_a2 (a : Nat) : IntKind.u64.wrap ((a : Int) + 14029467366897019727) = (addW a xp2 : Int) := w_add a 14029467366897019727
theorem w_a3 (a : Nat) : IntKind.u64.wrap ((a : Int) + 1609587929392839161) = (addW a xp3 : Int) := w_add a 1609587929392839161
theorem w_a4 (a : Nat) : IntKind.u64.wrap ((a : Int) + 9650029242287828579) = (addW a xp4 : Int) := w_add a 9650029242287828579
theorem w_a5 (a : Nat) : IntKind.u64.wrap ((a : Int) + 2870177450012600261) = (addW a xp5 : Int) := w_add a 2870177450012600261
theorem w_s1 (a : Nat) : IntKind.u64.wrap ((a : Int) - 11400714785074694791) = (subW a xp1 : Int) := w_sub a 11400714785074694791 (by omega)
theorem w_and63 (k : Nat) (hk : k < 64) : bits .and .u64 (k : Int) 63 = (k : Int) := by
  have h := u64_and_nat k 63 (by omega) (by omega)
  rw [show (k &&& 63) = k from by rw [show 63 = 2 ^ 6 - 1 from rfl, Nat.and_two_pow_sub_one_eq_mod]; omega] at h
  exact h
theorem w_rot (x k : Nat) (hx : x < 18446744073709551616) : bits .or .u64 (IntKind.u64.wrap ((x : Int) * 2 ^ k)) ((x : Int) / 2 ^ (64 - k)) = (rotW x k : Int) := by
  have e1 : IntKind.u64.wrap ((x : Int) * 2 ^ k) = ((x * 2 ^ k % 18446744073709551616 : Nat) : Int) := by
    rw [show (x : Int) * 2 ^ k = ((x * 2 ^ k : Nat) : Int) from by push_cast; rfl]; exact w_nat _
  have e2 : (x : Int) / 2 ^ (64 - k) = ((x / 2 ^ (64 - k) : Nat) : Int) := by push_cast; rfl
  rw [e1, e2, u64_or_nat _ _ (Nat.mod_lt _ (by omega)) (shr_lt _ hx)]
  rfl
theorem w_xor (a b : Nat) (ha : a < 18446744073709551616) (hb : b < 18446744073709551616) : bits .xor .u64 (a : Int) (b : Int) = ((a ^^^ b : Nat) : Int) := u64_xor_nat a b ha hb
theorem w_aval1 (x : Nat) (hx : x < 18446744073709551616) : IntKind.u64.wrap (bits .xor .u64 (x : Int) ((x : Int) / 8589934592) * 14029467366897019727) = (aval1 x : Int) := by
  have e : (x : Int) / 8589934592 = ((x / 8589934592 : Nat) : Int) := by omega
  rw [e, w_xor _ _ hx (shr_lt _ hx), w_p2]
  rfl
theorem w_aval2 (x : Nat) (hx : x < 18446744073709551616) : IntKind.u64.wrap (bits .xor .u64 (x : Int) ((x : Int) / 536870912) * 1609587929392839161) = (aval2 x : Int) := by
  have e : (x : Int) / 536870912 = ((x / 536870912 : Nat) : Int) := by omega
  rw [e, w_xor _ _ hx (shr_lt _ hx), w_p3]
  rfl
theorem w_aval (x : Nat) (hx : x < 18446744073709551616) :
    bits .xor .u64 (IntKind.u64.wrap (bits .xor .u64 (IntKind.u64.wrap (bits .xor .u64 (x : Int) ((x : Int) / 8589934592) * 14029467366897019727)) (IntKind.u64.wrap (bits .xor .u64 (x : Int) ((x : Int) / 8589934592) * 14029467366897019727) / 536870912) * 1609587929392839161))
      (IntKind.u64.wrap (bits .xor .u64 (IntKind.u64.wrap (bits .xor .u64 (x : Int) ((x : Int) / 8589934592) * 14029467366897019727)) (IntKind.u64.wrap (bits .xor .u64 (x : Int) ((x : Int) / 8589934592) * 14029467366897019727) / 536870912) * 1609587929392839161) / 4294967296) = (avalW x : Int) := by
  rw [w_aval1 x hx, w_aval2 _ (aval1_lt x)]
  have e : (aval2 (aval1 x) : Int) / 4294967296 = ((aval2 (aval1 x) / 4294967296 : Nat) : Int) := by omega
  rw [e, w_xor _ _ (aval2_lt _) (shr_lt _ (aval2_lt _))]
  rfl

/-! Bits low and high. -/
def bitsW (n : Int) : Nat := if n < 0 then 0 else if n < 64 then n.toNat else 64
def lowW (h k : Nat) : Nat := h % 2 ^ k
def highW (h k : Nat) : Nat := h / 2 ^ (64 - k)
theorem bitsW_is (n : Int) : (n < 0 ∧ bitsW n = 0) ∨ (0 ≤ n ∧ n < 64 ∧ (bitsW n : Int) = n) ∨ (64 ≤ n ∧ bitsW n = 64) := by
  unfold bitsW
  split
  · exact .inl ⟨‹_›, rfl⟩
  · split
    · exact .inr (.inl ⟨by omega, ‹_›, by omega⟩)
    · exact .inr (.inr ⟨by omega, rfl⟩)
theorem bitsW_le (n : Int) : bitsW n ≤ 64 := by have := bitsW_is n; omega
theorem w_low (h k : Nat) (hh : h < 18446744073709551616) (hk : k ≤ 64) : bits .and .u64 (h : Int) (IntKind.u64.wrap (IntKind.u64.wrap (2 ^ k) - 1)) = (lowW h k : Int) := by
  have e1 : IntKind.u64.wrap (2 ^ k) = ((2 ^ k % 18446744073709551616 : Nat) : Int) := by
    rw [show (2 : Int) ^ k = ((2 ^ k : Nat) : Int) from by push_cast; rfl]; exact w_nat _
  have e2 : IntKind.u64.wrap (IntKind.u64.wrap (2 ^ k) - 1) = ((2 ^ k - 1 : Nat) : Int) := by
    rw [e1, IntKind.wrap_u64]
    rcases Nat.lt_or_ge k 64 with h1 | h1
    · have h2 : 2 ^ k ≤ 2 ^ 63 := Nat.pow_le_pow_right (by omega) (by omega)
      have h3 : 0 < 2 ^ k := Nat.pow_pos (by omega)
      generalize 2 ^ k = c at *
      omega
    · have : k = 64 := by omega
      subst this
      decide
  have h4 : 2 ^ k ≤ 2 ^ 64 := Nat.pow_le_pow_right (by omega) hk
  have h3 : 0 < 2 ^ k := Nat.pow_pos (by omega)
  rw [e2, u64_and_nat _ _ hh (by omega), Nat.and_two_pow_sub_one_eq_mod]
  rfl
theorem w_two (k : Nat) (hk : k < 64) : ∃ m : Nat, IntKind.u64.wrap (2 ^ k) = (m : Int) ∧ ¬ m = 0 ∧ Hid (m = 2 ^ k) := by
  have h2 : 2 ^ k ≤ 2 ^ 63 := Nat.pow_le_pow_right (by omega) (by omega)
  have h3 : 0 < 2 ^ k := Nat.pow_pos (by omega)
  refine ⟨2 ^ k, ?_, ?_, rfl⟩
  · rw [show (2 : Int) ^ k = ((2 ^ k : Nat) : Int) from by push_cast; rfl, w_nat, Nat.mod_eq_of_lt (by omega)]
  · omega
theorem lowW_all (h : Nat) (hh : h < 18446744073709551616) : lowW h 64 = h := Nat.mod_eq_of_lt hh
theorem pick_is (x n : Int) (hn : 1 ≤ n) : (if x.tmod n < 0 then x.tmod n + n else x.tmod n) = x % n := by
  have h1 := Int.emod_lt_of_pos x (show 0 < n by omega)
  have h2 := Int.emod_nonneg x (show n ≠ 0 by omega)
  have h3 := Int.tmod_eq_emod (a := x) (b := n)
  split at h3
  · rw [if_neg (by omega)]; omega
  · rename_i h4
    have h5 : (n.natAbs : Int) = n := by omega
    have h6 : x % n ≠ 0 := fun h => h4 (.inr (Int.dvd_of_emod_eq_zero h))
    rw [if_pos (by omega)]; omega

/-! The hash of bytes. -/
/-- Four accumulators behind k of a stripe's four words. -/
def accK (acc : List Nat) (l : List UInt8) : Nat → List Nat
  | 0 => acc
  | k + 1 => (accK acc l k).set k (roundW ((accK acc l k).getD k 0) (wordN ((l.drop (8 * k)).take 8)))
/-- Behind n stripes. -/
def accF : Nat → List Nat → List UInt8 → List Nat
  | 0, acc, _ => acc
  | n + 1, acc, l => accF n (accK acc l 4) (l.drop 32)
def acc0 (s : Nat) : List Nat := [addW (addW s xp1) xp2, addW s xp2, s, subW s xp1]
def turnsK : List Nat := [1, 7, 12, 18]
def sumK (acc : List Nat) : Nat → Nat
  | 0 => 0
  | k + 1 => addW (sumK acc k) (rotW (acc.getD k 0) (turnsK.getD k 0))
def mergeK (h : Nat) (acc : List Nat) : Nat → Nat
  | 0 => h
  | k + 1 => mergeW (mergeK h acc k) (acc.getD k 0)
def endAcc (acc : List Nat) : Nat := mergeK (sumK acc 4) acc 4
def stripesW (s : Nat) (l : List UInt8) : Nat := endAcc (accF (l.length / 32) (acc0 s) l)
def step8 (h : Nat) (l : List UInt8) : Nat := addW (mulW (rotW (h ^^^ roundW 0 (wordN (l.take 8))) 27) xp1) xp4
def step4 (h : Nat) (l : List UInt8) : Nat := addW (mulW (rotW (h ^^^ mulW (wordN (l.take 4)) xp1) 23) xp2) xp3
def step1 (h : Nat) (x : UInt8) : Nat := mulW (rotW (h ^^^ mulW x.toNat xp5) 11) xp1
theorem step8_is (h : Nat) (l : List UInt8) : addW (mulW (rotW (h ^^^ roundW 0 (wordN (l.take 8))) 27) xp1) xp4 = step8 h l := by unfold step8; rfl
theorem step4_is (h : Nat) (l : List UInt8) : addW (mulW (rotW (h ^^^ mulW (wordN (l.take 4)) xp1) 23) xp2) xp3 = step4 h l := by unfold step4; rfl
def rest8 : Nat → Nat → List UInt8 → Nat
  | 0, h, _ => h
  | n + 1, h, l => rest8 n (step8 h l) (l.drop 8)
def rest1 (h : Nat) (l : List UInt8) : Nat := l.foldl step1 h
theorem rest1_nil (h : Nat) : rest1 h [] = h := by unfold rest1; rw [List.foldl_nil]
def rest4 (h : Nat) (l : List UInt8) : Nat := if 4 ≤ l.length then rest1 (step4 h l) (l.drop 4) else rest1 h l
def restW (h : Nat) (l : List UInt8) : Nat := rest4 (rest8 (l.length / 8) h l) (l.drop (8 * (l.length / 8)))
def headW (s : Nat) (l : List UInt8) : Nat := if 32 ≤ l.length then stripesW s l else addW s xp5
def sumW (s : Nat) (l : List UInt8) : Nat := avalW (restW (addW (headW s l) l.length) (l.drop (32 * (l.length / 32))))

theorem accK_len (acc : List Nat) (l : List UInt8) (k : Nat) : (accK acc l k).length = acc.length := by
  induction k with
  | zero => rfl
  | succ k ih => simp [accK, ih]
/-- All are words. -/
def AllW (acc : List Nat) : Prop := ∀ x ∈ acc, x < 18446744073709551616
theorem AllW.getD {acc : List Nat} (h : AllW acc) (k : Nat) : acc.getD k 0 < 18446744073709551616 := by
  rcases Nat.lt_or_ge k acc.length with hk | hk
  · rw [List.getD_eq_getElem?_getD, List.getElem?_eq_getElem hk, Option.getD_some]; exact h _ (List.getElem_mem hk)
  · rw [List.getD_eq_getElem?_getD, List.getElem?_eq_none hk, Option.getD_none]; omega
theorem AllW.set {acc : List Nat} (h : AllW acc) (k x : Nat) (hx : x < 18446744073709551616) : AllW (acc.set k x) := by
  intro y hy
  rcases List.mem_or_eq_of_mem_set hy with h1 | h1
  · exact h y h1
  · rw [h1]; exact hx
theorem accK_all {acc : List Nat} (h : AllW acc) (l : List UInt8) (k : Nat) : AllW (accK acc l k) := by
  induction k with
  | zero => exact h
  | succ k ih => exact ih.set k _ (roundW_lt _ _)
theorem acc0_all (s : Nat) (hs : s < 18446744073709551616) : AllW (acc0 s) := by
  have h1 := addW_lt (addW s xp1) xp2
  have h2 := addW_lt s xp2
  have h3 := subW_lt s xp1
  intro x hx
  unfold acc0 at hx
  rcases List.mem_cons.1 hx with h | hx
  · rw [h]; exact h1
  rcases List.mem_cons.1 hx with h | hx
  · rw [h]; exact h2
  rcases List.mem_cons.1 hx with h | hx
  · rw [h]; exact hs
  rcases List.mem_cons.1 hx with h | hx
  · rw [h]; exact h3
  · cases hx
theorem sumK_lt (acc : List Nat) (k : Nat) : sumK acc k < 18446744073709551616 := by
  cases k with
  | zero => rw [sumK]; omega
  | succ k => rw [sumK]; exact addW_lt _ _
theorem mergeK_lt (h : Nat) (acc : List Nat) (k : Nat) (hh : h < 18446744073709551616) : mergeK h acc k < 18446744073709551616 := by
  cases k with
  | zero => rw [mergeK]; exact hh
  | succ k => rw [mergeK]; exact mergeW_lt _ _
theorem endAcc_lt (acc : List Nat) : endAcc acc < 18446744073709551616 := mergeK_lt _ _ _ (sumK_lt _ _)
theorem stripesW_lt (s : Nat) (l : List UInt8) : stripesW s l < 18446744073709551616 := endAcc_lt _
theorem headW_lt (s : Nat) (l : List UInt8) : headW s l < 18446744073709551616 := by
  unfold headW; split
  · exact stripesW_lt _ _
  · exact addW_lt _ _
theorem step8_lt (h : Nat) (l : List UInt8) : step8 h l < 18446744073709551616 := addW_lt _ _
theorem step4_lt (h : Nat) (l : List UInt8) : step4 h l < 18446744073709551616 := addW_lt _ _
theorem step1_lt (h : Nat) (x : UInt8) : step1 h x < 18446744073709551616 := mulW_lt _ _
theorem rest8_lt (n h : Nat) (l : List UInt8) (hh : h < 18446744073709551616) : rest8 n h l < 18446744073709551616 := by
  induction n generalizing h l with
  | zero => rw [rest8]; exact hh
  | succ n ih => rw [rest8]; exact ih _ _ (step8_lt _ _)
theorem rest1_lt (h : Nat) (l : List UInt8) (hh : h < 18446744073709551616) : rest1 h l < 18446744073709551616 := by
  unfold rest1
  induction l generalizing h with
  | nil => rw [List.foldl_nil]; exact hh
  | cons x l ih => rw [List.foldl_cons]; exact ih _ (step1_lt _ _)
theorem rest1_snoc (h : Nat) (l : List UInt8) (k : Nat) (hk : k < l.length) : rest1 h (l.take (k + 1)) = step1 (rest1 h (l.take k)) l[k] := by
  unfold rest1
  rw [List.take_succ_eq_append_getElem hk, List.foldl_append, List.foldl_cons, List.foldl_nil]
theorem restW_lt (h : Nat) (l : List UInt8) (hh : h < 18446744073709551616) : restW h l < 18446744073709551616 := by
  unfold restW rest4
  split
  · exact rest1_lt _ _ (step4_lt _ _)
  · exact rest1_lt _ _ (rest8_lt _ _ _ hh)
theorem sumW_lt (s : Nat) (l : List UInt8) : sumW s l < 18446744073709551616 := avalW_lt _
end Go.Proofs.Ytafpnckpeaggcaa
