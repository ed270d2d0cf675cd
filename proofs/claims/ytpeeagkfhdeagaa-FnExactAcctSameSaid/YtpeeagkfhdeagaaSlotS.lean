/- SlotOk and SlotOf of the reference; no conditions. -/
import Derived.Test.YtpeeagkfhdeagaaSlotL
import Derived.Test.YtpeeagkfhdeagaaDigS
import Derived.Test.YtpeeagkfhdeagaaRingS
import Derived.Test.YtpeeagkfhdeagaaAppAll
import Derived.WalkLawsBesides
import Derived.Deep.Cut
set_option linter.unusedVariables false
namespace Go.Proofs.Ytpeeagkfhdeagaa
open Go.ChangeShapes Go.WideShapes Go.ChangeAt Go.RowKit

def slotOk (x : SlotD) : Bool := digs x.1 && (decide (x.1.size = 6) && (digs x.2.1 && (decide (x.2.1.size = 4) && inB (x.2.2.length : Int) 1 200)))
end Go.Proofs.Ytpeeagkfhdeagaa
