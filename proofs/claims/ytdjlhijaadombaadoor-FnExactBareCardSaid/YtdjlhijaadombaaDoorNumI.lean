/- The program's NumText: the decimal digits of money; the library's table of powers of ten holds its numbers. -/
import Derived.Test.YtdjlhijaadombaaDoorNum
import Derived.Test.YtdjlhijaadombaaDoorShelf
import Derived.Lib.AppendIntMem
set_option linter.unusedVariables false
namespace Go.Proofs.YtdjlhijaadombaaDoor
open Go.ChangeShapes Go.WideShapes Go.ChangeAt Go.RowKit

set_option maxRecDepth 100000 in
theorem itoa_mon {n : Int} (h : isMon n = true) : Lib.itoa n = numOf n := by
  have hb := isMon_true h
  unfold Lib.itoa numOf
  rw [if_neg (by omega), if_pos h]
set_option maxRecDepth 100000 in
theorem below_grown (w : World) (k : Nat) (os : Array Obj) : Below w.heap.size w (Sort.grow (w.drewN k) os) := Lib.below_grow _ w (Nat.le_refl _) k os

end Go.Proofs.YtdjlhijaadombaaDoor
