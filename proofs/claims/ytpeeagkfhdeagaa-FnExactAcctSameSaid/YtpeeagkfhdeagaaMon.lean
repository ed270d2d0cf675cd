/- isMoney: is a number money?; no conditions. -/
import Derived.Test.YtpeeagkfhdeagaaBase
set_option linter.unusedVariables false
namespace Go.Proofs.Ytpeeagkfhdeagaa
open Go.ChangeShapes Go.WideShapes Go.ChangeAt Go.RowKit

/-- is n money? -/
def isMon (n : Int) : Bool := decide (0 ≤ n) && decide (n ≤ 4611686018427387904)

set_option maxRecDepth 100000 in
theorem isMon_true {n : Int} (h : isMon n = true) : 0 ≤ n ∧ n ≤ 4611686018427387904 := by
  simpa [isMon] using h
set_option maxRecDepth 100000 in
theorem isMon_false {n : Int} (h : isMon n = false) : n < 0 ∨ 4611686018427387904 < n := by
  simp [isMon] at h
  by_cases h0 : 0 ≤ n
  · exact Or.inr (h h0)
  · exact Or.inl (by omega)

end Go.Proofs.Ytpeeagkfhdeagaa
