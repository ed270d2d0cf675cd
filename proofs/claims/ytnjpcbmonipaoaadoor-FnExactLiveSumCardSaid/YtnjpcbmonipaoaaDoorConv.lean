/- A byte as a string of one byte; no conditions. -/
import Derived.Test.YtnjpcbmonipaoaaDoorBase
import Derived.Laws.BytesArg
set_option linter.unusedVariables false
namespace Go.Proofs.YtnjpcbmonipaoaaDoor
open Go.ChangeShapes Go.WideShapes Go.ChangeAt Go.RowKit

end Go.Proofs.YtnjpcbmonipaoaaDoor
