/- The saturating sum, as a plain function; no conditions. -/
import Derived.Test.YtpeeagkfhdeagaaDoorAdd
set_option linter.unusedVariables false
namespace Go.Proofs.YtpeeagkfhdeagaaDoor
open Go.ChangeShapes Go.WideShapes Go.ChangeAt Go.RowKit

def clampM (n : Int) : Int := if n < 0 then 0 else if 4611686018427387904 < n then 4611686018427387904 else n
def satVal (a b : Int) : Int := if addOk (clampM a) (clampM b) = true then clampM a + clampM b else 4611686018427387904
set_option maxRecDepth 100000 in
theorem clampM_bd (n : Int) : 0 ≤ clampM n ∧ clampM n ≤ 4611686018427387904 := by unfold clampM; split <;> (try split) <;> omega
set_option maxRecDepth 100000 in
theorem clampM_mon (n : Int) : isMon (clampM n) = true := by
  have := clampM_bd n
  simp [isMon, this.1, this.2]

end Go.Proofs.YtpeeagkfhdeagaaDoor
