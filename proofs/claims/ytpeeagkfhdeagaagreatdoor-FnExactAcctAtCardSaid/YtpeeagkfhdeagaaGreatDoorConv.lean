/- A byte as a string of one byte; no conditions. -/
import Derived.Test.YtpeeagkfhdeagaaGreatDoorBase
import Derived.Laws.BytesArg
set_option linter.unusedVariables false
namespace Go.Proofs.YtpeeagkfhdeagaaGreatDoor
open Go.ChangeShapes Go.WideShapes Go.ChangeAt Go.RowKit

set_option maxRecDepth 100000 in
theorem conv_one (W : World) (c : Int) (T : TypeId) : (convert 69 9 (.slice (some ⟨W.heap.size, 0, none⟩) 1 1)).run Tryz.prog (W.alloc (.cells #[.int .u8 c] T)) = .ok (.string ⟨#[UInt8.ofNat c.toNat]⟩) (W.alloc (.cells #[.int .u8 c] T)) := by
  have h := run_convert_bytes_arg (P := Tryz.prog) (W.alloc (.cells #[.int .u8 c] T)) 69 5 Tryz.underlying69 Tryz.underlying5 W.heap.size 0 1 1 [c] rfl
    (fun i hi => by
      obtain rfl : i = 0 := by omega
      simp) 9 Tryz.underlying9
  exact h
end Go.Proofs.YtpeeagkfhdeagaaGreatDoor
