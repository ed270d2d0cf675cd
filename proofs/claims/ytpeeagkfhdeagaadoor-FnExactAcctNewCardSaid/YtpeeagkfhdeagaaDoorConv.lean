/- A byte as a string of one byte; no conditions. -/
import Derived.Test.YtpeeagkfhdeagaaDoorBase
import Derived.Laws.BytesArg
set_option linter.unusedVariables false
namespace Go.Proofs.YtpeeagkfhdeagaaDoor
open Go.ChangeShapes Go.WideShapes Go.ChangeAt Go.RowKit

set_option maxRecDepth 100000 in
theorem conv_one (W : World) (c : Int) (T : TypeId) : (convert 76 9 (.slice (some ⟨W.heap.size, 0, none⟩) 1 1)).run Tryd.prog (W.alloc (.cells #[.int .u8 c] T)) = .ok (.string ⟨#[UInt8.ofNat c.toNat]⟩) (W.alloc (.cells #[.int .u8 c] T)) := by
  have h := run_convert_bytes_arg (P := Tryd.prog) (W.alloc (.cells #[.int .u8 c] T)) 76 5 Tryd.underlying76 Tryd.underlying5 W.heap.size 0 1 1 [c] rfl
    (fun i hi => by
      obtain rfl : i = 0 := by omega
      simp) 9 Tryd.underlying9
  exact h
end Go.Proofs.YtpeeagkfhdeagaaDoor
