/-
  A reader's take by its contract. Conditions: skip is at most the bytes that are left.
-/
import Derived.Test.YtncjobeahpjnpaaRead2
namespace Go.Proofs.Ytncjobeahpjnpaa
open Go.RowKit
set_option maxRecDepth 100000

/-- What a call of a reader that answers bytes leaves. -/
def Took (w : World) (g : Nat) (m l : List UInt8) (e : Nat) (x : Ending) (w' : World) : Prop :=
  ∃ v, x = .returned v ∧ Byt w' v m ∧ Rdr w' g l e ∧ w.grownBy w' (some g)

set_option maxRecDepth 100000 in
set_option maxHeartbeats 1000000 in
theorem take_more (w : World) (g e : Nat) (l : List UInt8) (skip n : Nat) (hr : Rdr w g l e) (hs : skip ≤ l.length) (hn : l.length - skip < n) (hn64 : n < 18446744073709551616) :
    Calls Try.prog 56 #[.pointer (some ⟨g, 0, none⟩), .int .i64 (skip : Int), .int .u64 (n : Int)] w (Took w g [] l 5) := by
  obtain ⟨A, c, h0, h1, h2, hf1, hf2, hby, hlc, hcm⟩ := hr.cells
  have HR := Lib.hid hr
  have HB := Lib.hid hby
  have H64 := Lib.hid hn64
  clear hr hby hn64
  have hn' : ((l.length : Int) - (skip : Int)) < (n : Int) := by omega
  go_enter Try.func56, Try.ntmps56
  go_wp2
  all_goals
    go_ret
    exact ⟨_, rfl, Byt.nil _, HR.out.setErr 5, grown_set _ _ _ _⟩

set_option maxRecDepth 100000 in
set_option maxHeartbeats 1000000 in
theorem take_ok (w : World) (g e : Nat) (l : List UInt8) (skip n : Nat) (hr : Rdr w g l e) (hs : skip + n ≤ l.length) (hlen : l.length ≤ 70368744177664) :
    Calls Try.prog 56 #[.pointer (some ⟨g, 0, none⟩), .int .i64 (skip : Int), .int .u64 (n : Int)] w (Took w g ((l.drop skip).take n) (l.drop (skip + n)) e) := by
  obtain ⟨A, c, h0, h1, h2, hf1, hf2, hby, hlc, hcm⟩ := hr.cells
  have HR := Lib.hid hr
  obtain ⟨A1, n1, c1, r1, b1, N1, l1, m1⟩ := hby.cutrun 36 elemByte sizeByte skip (by omega) .i64
  have hn1 : n ≤ n1 := by have := N1.out; omega
  obtain ⟨A2, n2, c2, r2, b2, N2, l2, m2⟩ := b1.cutrun 36 elemByte sizeByte n hn1 .u64
  obtain ⟨A3, n3, c3, r3, b3, N3, l3, m3⟩ := b1.uptorun 36 elemByte sizeByte n hn1 .u64
  have HR2 : Hid (Rdr (w.setCell ⟨g, 1, none⟩ (.slice A2 n2 c2)) g (l.drop (skip + n)) e) := by
    have e2 : n2 = (l.drop (skip + n)).length := by have := N1.out; have := N2.out; rw [List.length_drop]; omega
    rw [List.drop_drop] at b2
    rw [e2] at b2 ⊢
    exact HR.out.setRest b2
  have HB3 : Hid (Byt (w.setCell ⟨g, 1, none⟩ (.slice A2 n2 c2)) (.slice A3 n3 c3) ((l.drop skip).take n)) := b3.reader HR.out (grown_set _ _ _ _)
  have hl3 : ((l.drop skip).take n).length ≤ 70368744177664 := by rw [List.length_take]; omega
  clear hr hby b1 b2 b3
  have hn1' : ¬ (n1 : Int) < (n : Int) := by omega
  go_enter Try.func56, Try.ntmps56
  go_wp2_with fail
  refine (behind_one _ _ ((l.drop skip).take n) HB3.out hl3).mono ?_
  rintro x w1 ⟨v1, rfl, hown1, hb1⟩
  go_wp2_with fail
  go_ret
  exact ⟨_, rfl, hown1.byt, HR2.out.below hb1, grown_trans (grown_set _ _ _ _) (grown_below hb1)⟩
end Go.Proofs.Ytncjobeahpjnpaa
