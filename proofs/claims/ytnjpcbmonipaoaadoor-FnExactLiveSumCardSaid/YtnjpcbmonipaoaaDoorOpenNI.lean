/- A slice of ints that came in reads as a list of ints. -/
import Derived.Test.YtnjpcbmonipaoaaDoorNums
import Derived.OpenShut
import Derived.ChangeSlices
set_option linter.unusedVariables false
namespace Go.Proofs.YtnjpcbmonipaoaaDoor
open Go.ChangeShapes Go.WideShapes Go.ChangeAt Go.RowKit Go.WideElems

set_option maxRecDepth 100000 in
theorem cellsNI64 : Tryd.prog.cellsOf 3 = 1 := by kernel_rfl
end Go.Proofs.YtnjpcbmonipaoaaDoor
