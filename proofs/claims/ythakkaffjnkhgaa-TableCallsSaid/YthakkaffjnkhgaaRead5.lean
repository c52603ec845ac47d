/-
  A reader's Word by its contract. Conditions: the bytes are fewer than 2^46.
-/
import Derived.Test.YthakkaffjnkhgaaRead4
namespace Go.Proofs.Ythakkaffjnkhgaa
open Go.RowKit
set_option maxRecDepth 100000

def RWRel (m : List UInt8) (n i : Value) : Prop :=
  ∃ k : Nat, k ≤ m.length ∧ i = .int .i64 (k : Int) ∧ n = .int .u64 (wordN (m.take k) : Int)

end Go.Proofs.Ythakkaffjnkhgaa
