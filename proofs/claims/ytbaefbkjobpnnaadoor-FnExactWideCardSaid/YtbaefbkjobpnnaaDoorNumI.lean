/- The program's NumText: the decimal digits of money; the library's table of powers of ten holds its numbers. -/
import Derived.Test.YtbaefbkjobpnnaaDoorNum
import Derived.Test.YtbaefbkjobpnnaaDoorShelf
import Derived.Lib.AppendIntMem
set_option linter.unusedVariables false
namespace Go.Proofs.YtbaefbkjobpnnaaDoor
open Go.ChangeShapes Go.WideShapes Go.ChangeAt Go.RowKit

theorem itoa_mon {n : Int} (h : isMon n = true) : Lib.itoa n = numOf n := by
  have hb := isMon_true h
  unfold Lib.itoa numOf
  rw [if_neg (by omega), if_pos h]
theorem below_grown (w : World) (k : Nat) (os : Array Obj) : Below w.heap.size w (Sort.grow (w.drewN k) os) := Lib.below_grow _ w (Nat.le_refl _) k os

theorem implNum_any (n : Int) (w : World) (htab : Lib.TabIs Tryd.prog w "internal/strconv.uint64pow10" .u64 Lib.pow10Tab) :
    Calls Tryd.prog 16 #[.int .i64 n] w fun e w' => e = .returned (strOf (numOf n)) ∧ Below w.heap.size w w' := by
  cases hm : isMon n
  · have hv : numOf n = [] := by simp [numOf, hm]
    rw [hv]
    go_enter Tryd.func16, Tryd.ntmps16
    go_wp2_with (go_at_call 37; refine (isMoney_any _ _).mono ?_; rintro e w' ⟨rfl, rfl⟩)
    go_ret
    exact ⟨rfl, Below.refl _ _⟩
  · have hb := isMon_true hm
    have hi := Lib.hid (itoa_mon hm)
    go_enter Tryd.func16, Tryd.ntmps16
    go_wp2_with (first | (go_at_call 37; refine (isMoney_any _ _).mono ?_; rintro e w' ⟨rfl, rfl⟩) | (go_at_call 39; refine (Tryd.strconv_Itoa n (by omega) (by omega) _ htab).mono ?_; rintro e w' ⟨rfl, k, os, rfl⟩))
    go_ret
    exact ⟨by rw [hi.out]; rfl, below_grown _ _ _⟩
end Go.Proofs.YtbaefbkjobpnnaaDoor
