/- A byte as a string of one byte; no conditions. -/
import Derived.Test.YtmojpiofdfmdgaaDoorBase
import Derived.Laws.BytesArg
set_option linter.unusedVariables false
namespace Go.Proofs.YtmojpiofdfmdgaaDoor
open Go.ChangeShapes Go.WideShapes Go.ChangeAt Go.RowKit

end Go.Proofs.YtmojpiofdfmdgaaDoor
