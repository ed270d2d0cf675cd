/- A byte as a string of one byte; no conditions. -/
import Derived.Test.YtpeeagkfhdeagaaBase
import Derived.Laws.BytesArg
set_option linter.unusedVariables false
namespace Go.Proofs.Ytpeeagkfhdeagaa
open Go.ChangeShapes Go.WideShapes Go.ChangeAt Go.RowKit

set_option maxRecDepth 100000 in
theorem conv_one (W : World) (c : Int) (T : TypeId) : (convert 61 9 (.slice (some ⟨W.heap.size, 0, none⟩) 1 1)).run Try.prog (W.alloc (.cells #[.int .u8 c] T)) = .ok (.string ⟨#[UInt8.ofNat c.toNat]⟩) (W.alloc (.cells #[.int .u8 c] T)) := by
  have h := run_convert_bytes_arg (P := Try.prog) (W.alloc (.cells #[.int .u8 c] T)) 61 5 Try.underlying61 Try.underlying5 W.heap.size 0 1 1 [c] rfl
    (fun i hi => by
      obtain rfl : i = 0 := by omega
      simp) 9 Try.underlying9
  exact h
end Go.Proofs.Ytpeeagkfhdeagaa
