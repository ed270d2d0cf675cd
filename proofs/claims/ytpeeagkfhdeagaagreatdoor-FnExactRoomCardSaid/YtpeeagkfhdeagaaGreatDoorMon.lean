/- isMoney: is a number money?; no conditions. -/
import Derived.Test.YtpeeagkfhdeagaaGreatDoorBase
set_option linter.unusedVariables false
namespace Go.Proofs.YtpeeagkfhdeagaaGreatDoor
open Go.ChangeShapes Go.WideShapes Go.ChangeAt Go.RowKit

/-- is n money? -/
def isMon (n : Int) : Bool := decide (0 ≤ n) && decide (n ≤ 4611686018427387904)

set_option maxRecDepth 100000 in
theorem isMon_true {n : Int} (h : isMon n = true) : 0 ≤ n ∧ n ≤ 4611686018427387904 := by
  simpa [isMon] using h
set_option maxRecDepth 100000 in
theorem isMon_false {n : Int} (h : isMon n = false) : n < 0 ∨ 4611686018427387904 < n := by
  simp [isMon] at h
  by_cases h0 : 0 ≤ n
  · exact Or.inr (h h0)
  · exact Or.inl (by omega)

set_option maxRecDepth 100000 in
theorem l01Money_any (n : Int) (w : World) : Calls Tryz.prog 50 #[.int .i64 n] w fun e w' => e = .returned (.bool (isMon n)) ∧ w = w' := by
  by_cases h0 : 0 ≤ n
  all_goals
    go_enter Tryz.func50, Tryz.ntmps50
    go_wp2
    go_ret
    exact ⟨by simp [isMon]; omega, rfl⟩

set_option maxRecDepth 100000 in
theorem isMoney_any (n : Int) (w : World) : Calls Tryz.prog 115 #[.int .i64 n] w fun e w' => e = .returned (.bool (isMon n)) ∧ w = w' := by
  by_cases h0 : 0 ≤ n
  all_goals
    go_enter Tryz.func115, Tryz.ntmps115
    go_wp2
    go_ret
    exact ⟨by simp [isMon]; omega, rfl⟩

end Go.Proofs.YtpeeagkfhdeagaaGreatDoor
