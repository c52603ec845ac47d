/-
  A reader's Upto, Number, Block and Fixed by their contracts. Conditions: the bytes are fewer than 2^46.
-/
import Derived.Test.YtagchbpofoidmaaDoorRead3
namespace Go.Proofs.YtagchbpofoidmaaDoor
open Go.RowKit
set_option maxRecDepth 100000

theorem take_any (w : World) (g : Nat) (l : List UInt8) (skip n : Nat) (hr : Rdr w g l 0) (hs : skip ≤ l.length) (hn64 : n < 18446744073709551616) (hlen : l.length ≤ 70368744177664) :
    Calls Tryd.prog 69 #[.pointer (some ⟨g, 0, none⟩), .int .i64 (skip : Int), .int .u64 (n : Int)] w (Took w g (takeB l skip n).1 (takeB l skip n).2.1 (takeB l skip n).2.2) := by
  unfold takeB
  split
  · exact take_ok w g 0 l skip n hr (by omega) hlen
  · exact take_more w g 0 l skip n hr hs (by omega) hn64

end Go.Proofs.YtagchbpofoidmaaDoor
