/- Texts joined: AppZ. -/
import Derived.Lib.AppendZerosOnto
import Derived.Test.YtgefdmfcddpaiaaGreatDoorPkAA
namespace Go.Proofs.YtgefdmfcddpaiaaGreatDoor
set_option linter.unusedVariables false
set_option maxRecDepth 100000
open Go.RowKit Go.ChangeShapes Go.WideShapes
end Go.Proofs.YtgefdmfcddpaiaaGreatDoor
