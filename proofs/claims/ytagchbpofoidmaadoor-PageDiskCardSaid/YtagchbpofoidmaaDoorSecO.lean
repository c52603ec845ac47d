/-
  Crashes and calls that came in, opened: what their cells hold. Conditions: none.
-/
import Derived.Test.YtagchbpofoidmaaDoorSecN
import Derived.Test.YtagchbpofoidmaaDoorOpen
import Derived.Deep.Slices
import Derived.Deep.Strs
namespace Go.Proofs.YtagchbpofoidmaaDoor
open Go.ChangeShapes Go.WideShapes Go.ChangeAt Go.RowKit Go.Deep Go.Maps
set_option maxRecDepth 100000

theorem cellBool : Tryd.prog.cellsOf 4 = 1 := by kernel_rfl
theorem cellInt : Tryd.prog.cellsOf 3 = 1 := by kernel_rfl
theorem cellByte : Tryd.prog.cellsOf 5 = 1 := by kernel_rfl
section
variable {H : Type} {enc : TypeId × Value → H} {W : World}
end
end Go.Proofs.YtagchbpofoidmaaDoor
