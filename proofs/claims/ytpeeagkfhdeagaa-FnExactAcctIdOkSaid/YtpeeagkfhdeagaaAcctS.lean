/- AcctIdOk of the reference; no conditions. -/
import Derived.Test.YtpeeagkfhdeagaaLuhnOk
set_option linter.unusedVariables false
namespace Go.Proofs.Ytpeeagkfhdeagaa
open Go.ChangeShapes Go.WideShapes Go.ChangeAt Go.RowKit

def acctIdB (s : ByteArray) : Bool := decide (s.size ≤ 19) && luOk s
set_option maxRecDepth 100000 in
theorem specAcctIdOk_any (s : ByteArray) (w : World) (hs : s.size ≤ maxLen) :
    Calls Try.prog 5 #[.string s] w fun e w' => e = .returned (.bool (acctIdB s)) ∧ Below w.heap.size w w' := by
  by_cases h : s.size ≤ 19
  · have HI : Hid (acctIdB s = luOk s) := Lib.hid (by unfold acctIdB; rw [decide_eq_true h]; rfl)
    have HL := Lib.hid (fun w => specLuhnOk_any s w (by omega))
    have h' : (s.size : Int) ≤ 19 := by omega
    rw [HI.out]
    generalize luOk s = b at HL
    go_enter Try.func5, Try.ntmps5
    go_wp2_with fail
    refine (HL.out _).mono ?_
    rintro e w1 ⟨rfl, hb⟩
    go_wp2
    go_ret
    exact ⟨rfl, hb⟩
  · have HI : Hid (acctIdB s = false) := Lib.hid (by unfold acctIdB; rw [decide_eq_false h]; rfl)
    have h' : ¬ (s.size : Int) ≤ 19 := by omega
    rw [HI.out]
    go_enter Try.func5, Try.ntmps5
    go_wp2
    go_ret
    exact ⟨rfl, Below.refl _ _⟩
end Go.Proofs.Ytpeeagkfhdeagaa
