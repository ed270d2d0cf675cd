/- isMoney: is a number money?; no conditions. -/
import Derived.Test.YtpeeagkfhdeagaaDoorBase
set_option linter.unusedVariables false
namespace Go.Proofs.YtpeeagkfhdeagaaDoor
open Go.ChangeShapes Go.WideShapes Go.ChangeAt Go.RowKit

/-- is n money? -/
def isMon (n : Int) : Bool := decide (0 ≤ n) && decide (n ≤ 4611686018427387904)

set_option maxRecDepth 100000 in
theorem isMon_true {n : Int} (h : isMon n = true) : 0 ≤ n ∧ n ≤ 4611686018427387904 := by
  simpa [isMon] using h
set_option maxRecDepth 100000 in
theorem isMon_false {n : Int} (h : isMon n = false) : n < 0 ∨ 4611686018427387904 < n := by
  simp [isMon] at h
  by_cases h0 : 0 ≤ n
  · exact Or.inr (h h0)
  · exact Or.inl (by omega)

set_option maxRecDepth 100000 in
theorem l01Money_any (n : Int) (w : World) : Calls Tryd.prog 30 #[.int .i64 n] w fun e w' => e = .returned (.bool (isMon n)) ∧ w = w' := by
  by_cases h0 : 0 ≤ n
  all_goals
    go_enter Tryd.func30, Tryd.ntmps30
    go_wp2
    go_ret
    exact ⟨by simp [isMon]; omega, rfl⟩

set_option maxRecDepth 100000 in
theorem isMoney_any (n : Int) (w : World) : Calls Tryd.prog 78 #[.int .i64 n] w fun e w' => e = .returned (.bool (isMon n)) ∧ w = w' := by
  by_cases h0 : 0 ≤ n
  all_goals
    go_enter Tryd.func78, Tryd.ntmps78
    go_wp2
    go_ret
    exact ⟨by simp [isMon]; omega, rfl⟩

end Go.Proofs.YtpeeagkfhdeagaaDoor
