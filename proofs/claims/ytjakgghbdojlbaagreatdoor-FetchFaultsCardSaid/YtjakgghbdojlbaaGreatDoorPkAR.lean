/- Texts joined: AppZ. -/
import Derived.Lib.AppendZerosOnto
import Derived.Test.YtjakgghbdojlbaaGreatDoorPkAA
namespace Go.Proofs.YtjakgghbdojlbaaGreatDoor
set_option linter.unusedVariables false
set_option maxRecDepth 100000
open Go.RowKit Go.ChangeShapes Go.WideShapes
end Go.Proofs.YtjakgghbdojlbaaGreatDoor
