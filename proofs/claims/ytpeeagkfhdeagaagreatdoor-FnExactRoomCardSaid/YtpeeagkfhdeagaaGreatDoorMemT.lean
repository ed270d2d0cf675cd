/- Whole blocks under a world that has turned elsewhere; no conditions. -/
import Derived.Test.YtpeeagkfhdeagaaGreatDoorMem
import Derived.Test.YtpeeagkfhdeagaaGreatDoorRep
set_option linter.unusedVariables false
namespace Go.Proofs.YtpeeagkfhdeagaaGreatDoor
open Go.ChangeShapes Go.WideShapes Go.ChangeAt Go.RowKit

set_option maxRecDepth 100000 in
theorem bk.under {w w' : World} {lo hi g : Nat} {t : TypeId} {cs : List Value} (h : bk w g t cs) (ht : Turned lo hi w w') (hg : g < lo ∨ hi ≤ g) : bk w' g t cs := (ht.block g h.lt (by omega)).trans h
end Go.Proofs.YtpeeagkfhdeagaaGreatDoor
