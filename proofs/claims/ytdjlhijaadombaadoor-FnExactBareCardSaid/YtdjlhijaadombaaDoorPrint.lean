/- Printable: both functions tell whether all bytes lie from 32 to 126; no conditions. -/
import Derived.Test.YtdjlhijaadombaaDoorAll
set_option linter.unusedVariables false
namespace Go.Proofs.YtdjlhijaadombaaDoor
open Go.ChangeShapes Go.WideShapes Go.ChangeAt Go.RowKit

def prn (c : UInt8) : Bool := decide (32 ≤ c.toNat) && decide (c.toNat ≤ 126)
def prnS (s : ByteArray) : Bool := s.data.toList.all prn
set_option maxRecDepth 100000 in
theorem prn_yes {c : UInt8} (h0 : ¬ (c.toNat : Int) < 32) (h1 : ¬ 126 < (c.toNat : Int)) : prn c = true := by simp [prn]; omega
set_option maxRecDepth 100000 in
theorem prn_no {c : UInt8} (h : (c.toNat : Int) < 32 ∨ 126 < (c.toNat : Int)) : prn c = false := by
  cases hp : prn c
  · rfl
  · simp [prn] at hp; omega

set_option maxRecDepth 100000 in
theorem specPrintable_any (s : ByteArray) (w : World) (hs : s.size ≤ maxLen) :
    Calls Tryd.prog 32 #[.string s] w fun e w' => e = .returned (.bool (prnS s)) ∧ w = w' := by
  unfold maxLen at hs
  go_enter Tryd.func32, Tryd.ntmps32
  go_wp2
  go_loop [3] (fun i => ∃ k : Nat, k ≤ s.size ∧ i = .int .i64 k ∧ (s.data.toList.take k).all prn = true) (fun i => s.size - (intOf i).toNat)
  case atStart => exact ⟨0, Nat.zero_le _, rfl, rfl⟩
  case round =>
    obtain ⟨k, hk, rfl, ha0⟩ := hrel
    have ha := Lib.hid ha0
    clear ha0
    by_cases hlt : k < s.size
    · go_wp2
      · go_ret
        exact ⟨ret_bool (allP_no prn s k hlt (prn_no (by omega))).symm, rfl⟩
      · go_round
        case rel => exact ⟨k + 1, by omega, by go_num, allP_one prn s k hlt ha.out (prn_yes (by omega) (by omega))⟩
        case measure => simp [intOf] <;> omega
      · go_ret
        exact ⟨ret_bool (allP_no prn s k hlt (prn_no (by omega))).symm, rfl⟩
    · go_wp2
      go_ret
      exact ⟨ret_bool (allP_end prn s k hlt ha.out).symm, rfl⟩

set_option maxRecDepth 100000 in
theorem implPrintable_any (s : ByteArray) (w : World) (hs : s.size ≤ maxLen) :
    Calls Tryd.prog 39 #[.string s] w fun e w' => e = .returned (.bool (prnS s)) ∧ w = w' := by
  unfold maxLen at hs
  go_enter Tryd.func39, Tryd.ntmps39
  go_wp2
  go_loop [3, 6] (fun _ i => ∃ k : Nat, k ≤ s.size ∧ i = .int .i64 k ∧ (s.data.toList.take k).all prn = true) (fun _ i => s.size - (intOf i).toNat)
  case atStart => exact ⟨0, Nat.zero_le _, rfl, rfl⟩
  case round =>
    obtain ⟨k, hk, rfl, ha0⟩ := hrel
    have ha := Lib.hid ha0
    clear ha0
    by_cases hlt : k < s.size
    · go_wp2
      · go_ret
        exact ⟨ret_bool (allP_no prn s k hlt (prn_no (by omega))).symm, rfl⟩
      · go_round
        case rel => exact ⟨k + 1, by omega, by go_num, allP_one prn s k hlt ha.out (prn_yes (by omega) (by omega))⟩
        case measure => simp [intOf] <;> omega
      · go_ret
        exact ⟨ret_bool (allP_no prn s k hlt (prn_no (by omega))).symm, rfl⟩
    · go_wp2
      go_ret
      exact ⟨ret_bool (allP_end prn s k hlt ha.out).symm, rfl⟩
end Go.Proofs.YtdjlhijaadombaaDoor
