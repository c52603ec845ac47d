/-
  A reader's take by its contract. Conditions: skip is at most the bytes that are left.
-/
import Derived.Test.YthakkaffjnkhgaaRead2
namespace Go.Proofs.Ythakkaffjnkhgaa
open Go.RowKit
set_option maxRecDepth 100000

/-- What a call of a reader that answers bytes leaves. -/
def Took (w : World) (g : Nat) (m l : List UInt8) (e : Nat) (x : Ending) (w' : World) : Prop :=
  ∃ v, x = .returned v ∧ Byt w' v m ∧ Rdr w' g l e ∧ w.grownBy w' (some g)

end Go.Proofs.Ythakkaffjnkhgaa
