/- Texts joined: AppZ. -/
import Derived.Lib.AppendZerosOnto
import Derived.Test.YticpdokbiblpoaaGreatDoorPkAA
set_option linter.unusedVariables false
namespace Go.Proofs.YticpdokbiblpoaaGreatDoor
set_option maxRecDepth 100000
open Go.RowKit Go.ChangeShapes Go.WideShapes
end Go.Proofs.YticpdokbiblpoaaGreatDoor
