/-
  A slice of bools that came in, opened: what its cells hold. Conditions: none.
-/
import Derived.Test.YthakkaffjnkhgaaRowq
import Derived.Test.YthakkaffjnkhgaaOpen
import Derived.Deep.Slices
import Derived.Deep.Strs
namespace Go.Proofs.Ythakkaffjnkhgaa
open Go.ChangeShapes Go.WideShapes Go.ChangeAt Go.RowKit Go.Deep Go.Maps
set_option maxRecDepth 100000

theorem cellBool : Try.prog.cellsOf 4 = 1 := by kernel_rfl
section
variable {H : Type} {enc : TypeId × Value → H} {W : World}
end
end Go.Proofs.Ythakkaffjnkhgaa
