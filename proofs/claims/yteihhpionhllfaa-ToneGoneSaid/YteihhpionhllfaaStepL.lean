/- Package table's contract of a scale's step. -/
import Derived.Test.YteihhpionhllfaaSmall
namespace Go.Proofs.Yteihhpionhllfaa
set_option linter.unusedVariables false
open Go.RowKit

end Go.Proofs.Yteihhpionhllfaa
