/-
  Package sector: Crash, Read by their contracts. Conditions: none but that the disk lies there, and what is handed in apart from it.
-/
import Derived.Test.YtmfcckmcbmlhmaaSecH
namespace Go.Proofs.Ytmfcckmcbmlhmaa
open Go.RowKit Go.Maps
set_option maxRecDepth 100000

end Go.Proofs.Ytmfcckmcbmlhmaa
