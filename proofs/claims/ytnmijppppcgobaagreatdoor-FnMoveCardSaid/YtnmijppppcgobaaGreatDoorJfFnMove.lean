/- The closed facts of the row of FnMove; no conditions. -/
import Derived.Test.YtnmijppppcgobaaGreatDoorCards
import Derived.Test.YtnmijppppcgobaaGreatDoorTie
import Derived.SevenTiedAt
import Derived.Stop.Joined
namespace Go.Proofs.YtnmijppppcgobaaGreatDoor.fnMove
set_option maxHeartbeats 8000000 in
set_option maxRecDepth 100000 in
theorem closed : joinedFacts Tryz.pinned.checked.prog 7 Tryz.f7 Rows.fnMoveSpec Rows.fnMoveRow = true := by
  unfold joinedFacts
  simp only [Bool.and_eq_true]
  repeat' apply And.intro
  all_goals (as_aux_lemma => kernel_rfl)
end Go.Proofs.YtnmijppppcgobaaGreatDoor.fnMove
