/-
  Package sector: Crash, Read by their contracts. Conditions: none but that the disk lies there, and what is handed in apart from it.
-/
import Derived.Test.YtagchbpofoidmaaDoorSecH
namespace Go.Proofs.YtagchbpofoidmaaDoor
open Go.RowKit Go.Maps
set_option maxRecDepth 100000

end Go.Proofs.YtagchbpofoidmaaDoor
