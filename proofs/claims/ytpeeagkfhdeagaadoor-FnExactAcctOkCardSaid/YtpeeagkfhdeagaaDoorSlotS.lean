/- SlotOk and SlotOf of the reference; no conditions. -/
import Derived.Test.YtpeeagkfhdeagaaDoorSlotL
import Derived.Test.YtpeeagkfhdeagaaDoorDigS
import Derived.Test.YtpeeagkfhdeagaaDoorRingS
import Derived.Test.YtpeeagkfhdeagaaDoorAppAll
import Derived.WalkLawsBesides
import Derived.Deep.Cut
set_option linter.unusedVariables false
namespace Go.Proofs.YtpeeagkfhdeagaaDoor
open Go.ChangeShapes Go.WideShapes Go.ChangeAt Go.RowKit

def slotOk (x : SlotD) : Bool := digs x.1 && (decide (x.1.size = 6) && (digs x.2.1 && (decide (x.2.1.size = 4) && inB (x.2.2.length : Int) 1 200)))
set_option maxRecDepth 100000 in
set_option maxHeartbeats 1600000 in
theorem specSlotOk_any (hi : Nat) (v : Value) (x : SlotD) (w : World) (hs1 : x.1.size ≤ maxLen) (hs2 : x.2.1.size ≤ maxLen) (h : rd .u8 hi w v x.2.2) :
    Calls Tryd.prog 57 #[.agg #[.string x.1, .string x.2.1, v]] w fun e w' => e = .returned (.bool (slotOk x)) ∧ Below w.heap.size w w' := by
  obtain ⟨A, c, rfl, -⟩ := h.form
  clear h
  have HD1 := Lib.hid (fun w => specDigits_any x.1 w hs1)
  have HD2 := Lib.hid (fun w => specDigits_any x.2.1 w hs2)
  have HI := Lib.hid (fun w => inB_any (x.2.2.length : Int) 1 200 w)
  have HV : Hid (slotOk x = (digs x.1 && (decide (x.1.size = 6) && (digs x.2.1 && (decide (x.2.1.size = 4) && inB (x.2.2.length : Int) 1 200))))) := Lib.hid rfl
  generalize digs x.1 = b1 at HD1 HV
  generalize digs x.2.1 = b2 at HD2 HV
  generalize inB (x.2.2.length : Int) 1 200 = b3 at HI HV
  have HB0 : Hid (Below w.heap.size w (w.alloc (.cells #[.string x.1, .string x.2.1, .slice A x.2.2.length c] 78))) := Lib.hid ((Below.refl _ _).alloc (Nat.le_refl _) _)
  rw [HV.out]
  cases b1
  · go_enter Tryd.func57, Tryd.ntmps57
    go_wp2_with fail
    refine (HD1.out _).mono ?_
    rintro e w1 ⟨rfl, rfl⟩
    go_wp2
    go_ret
    exact ⟨rfl, HB0.out⟩
  by_cases e6 : x.1.size = 6
  case neg =>
    rw [decide_eq_false e6]
    have e6' : ((x.1.size : Int) == 6) = false := by simp; omega
    clear e6
    go_enter Tryd.func57, Tryd.ntmps57
    go_wp2_with fail
    refine (HD1.out _).mono ?_
    rintro e w1 ⟨rfl, rfl⟩
    go_wp2
    go_ret
    exact ⟨rfl, HB0.out⟩
  rw [decide_eq_true e6]
  have e6' : ((x.1.size : Int) == 6) = true := by simp; omega
  have HE6 := Lib.hid e6
  clear e6
  cases b2
  · go_enter Tryd.func57, Tryd.ntmps57
    go_wp2_with fail
    refine (HD1.out _).mono ?_
    rintro e w1 ⟨rfl, rfl⟩
    go_wp2_with fail
    refine (HD2.out _).mono ?_
    rintro e w1 ⟨rfl, rfl⟩
    go_wp2
    go_ret
    exact ⟨rfl, HB0.out⟩
  by_cases e4 : x.2.1.size = 4
  case neg =>
    rw [decide_eq_false e4]
    have e4' : ((x.2.1.size : Int) == 4) = false := by simp; omega
    clear e4
    go_enter Tryd.func57, Tryd.ntmps57
    go_wp2_with fail
    refine (HD1.out _).mono ?_
    rintro e w1 ⟨rfl, rfl⟩
    go_wp2_with fail
    refine (HD2.out _).mono ?_
    rintro e w1 ⟨rfl, rfl⟩
    go_wp2
    go_ret
    exact ⟨rfl, HB0.out⟩
  rw [decide_eq_true e4]
  have e4' : ((x.2.1.size : Int) == 4) = true := by simp; omega
  clear e4
  go_enter Tryd.func57, Tryd.ntmps57
  go_wp2_with fail
  refine (HD1.out _).mono ?_
  rintro e w1 ⟨rfl, rfl⟩
  go_wp2_with fail
  refine (HD2.out _).mono ?_
  rintro e w1 ⟨rfl, rfl⟩
  go_wp2_with fail
  refine (HI.out _).mono ?_
  rintro e w1 ⟨rfl, rfl⟩
  go_wp2
  go_ret
  exact ⟨rfl, HB0.out⟩
end Go.Proofs.YtpeeagkfhdeagaaDoor
