/- The reference's Digits; no conditions. -/
import Derived.Test.YtmojpiofdfmdgaaDoorBase
set_option linter.unusedVariables false
namespace Go.Proofs.YtmojpiofdfmdgaaDoor
open Go.ChangeShapes Go.WideShapes Go.ChangeAt Go.RowKit

end Go.Proofs.YtmojpiofdfmdgaaDoor
