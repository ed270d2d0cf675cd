/- The closed facts of the row of FnDue; no conditions. -/
import Derived.Test.YtnmijppppcgobaaGreatDoorCards
import Derived.Test.YtnmijppppcgobaaGreatDoorTie
import Derived.SevenTiedAt
import Derived.Stop.Joined
namespace Go.Proofs.YtnmijppppcgobaaGreatDoor.fnDue
set_option maxHeartbeats 8000000 in
set_option maxRecDepth 100000 in
theorem closed : joinedFacts Tryz.pinned.checked.prog 3 Tryz.f3 Rows.fnDueSpec Rows.fnDueRow = true := by
  unfold joinedFacts
  simp only [Bool.and_eq_true]
  repeat' apply And.intro
  all_goals (as_aux_lemma => kernel_rfl)
end Go.Proofs.YtnmijppppcgobaaGreatDoor.fnDue
