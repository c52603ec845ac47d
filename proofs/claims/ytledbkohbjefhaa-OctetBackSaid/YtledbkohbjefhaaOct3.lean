/-
  octet.Size by its contract: how many bytes the number has. Conditions: none.
-/
import Derived.Test.YtledbkohbjefhaaOct2
import Derived.Test.YtledbkohbjefhaaShelf
import Derived.Test.YtledbkohbjefhaaSize
namespace Go.Proofs.Ytledbkohbjefhaa
open Go.RowKit

set_option maxRecDepth 100000 in
set_option maxHeartbeats 1000000 in
theorem size_any (n : Nat) (w : World) (hn : n < 18446744073709551616) :
    Calls Try.prog 14 #[.int .u64 n] w fun e w' => e = .returned (.int .i64 ((numB n).length : Int)) ∧ w = w' := by
  have h2 := numB_bits n hn
  have h3 := bitLen_le n hn
  obtain ⟨h4, h5⟩ := or_one_int n hn
  generalize n ||| 1 = m at *
  have H2 := Lib.hid h2
  have H4 := Lib.hid h4
  have H5 := Lib.hid h5
  clear hn h2 h4 h5
  go_enter Try.func14, Try.ntmps14
  go_wp2_with (go_at_call 31; rw [H4.out]; refine (Try.bits_Len64 _ _ (by omega) (by have := H5.out; omega)).mono ?_; rintro e w' ⟨rfl, rfl⟩; rw [Int.toNat_natCast])
  go_ret
  exact ⟨by rw [H2.out]; go_num, rfl⟩
end Go.Proofs.Ytledbkohbjefhaa
