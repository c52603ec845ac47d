/-
  octet.first by its contract. Conditions: none but that the bytes lie there.
-/
import Derived.Test.YtncjobeahpjnpaaOct2
namespace Go.Proofs.Ytncjobeahpjnpaa
open Go.RowKit
set_option maxRecDepth 100000

def FirRel (l : List UInt8) (n i : Value) : Prop :=
  ∃ k acc : Nat, k ≤ l.length ∧ k ≤ 9 ∧ i = .int .i64 k ∧ n = .int .u64 acc ∧ acc < 2 ^ (7 * k) ∧ firstF k acc (l.drop k) = firstB l

end Go.Proofs.Ytncjobeahpjnpaa
