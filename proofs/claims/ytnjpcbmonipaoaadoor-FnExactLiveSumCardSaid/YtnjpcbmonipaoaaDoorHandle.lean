/- The library's table of type handles holds what its text lays: a condition of the program's saturating sums. -/
import Derived.Test.YtnjpcbmonipaoaaDoorSat
import Derived.Test.YtnjpcbmonipaoaaDoorMem
import Derived.Test.YtnjpcbmonipaoaaDoorMemT
set_option linter.unusedVariables false
namespace Go.Proofs.YtnjpcbmonipaoaaDoor
open Go.ChangeShapes Go.WideShapes Go.ChangeAt Go.RowKit

/-- the library's handle of the type error -/
def Handle (w : World) : Prop := w.cell? ⟨1, 0, none⟩ = some (.iface RT (.agg #[.pointer (some ⟨2, ER, none⟩)]))
set_option maxRecDepth 100000 in
theorem Handle.lt {w : World} (h : Handle w) : 1 < w.heap.size := by
  unfold Handle at h
  rcases Nat.lt_or_ge 1 w.heap.size with h' | h'
  · exact h'
  · simp [World.cell?, Array.getElem?_eq_none h'] at h
set_option maxRecDepth 100000 in
theorem Handle.below {w w' : World} {B : Nat} (h : Handle w) (hb : Below B w w') (hB : w.heap.size ≤ B) : Handle w' := (hb.cell (p := ⟨_, _, none⟩) (show 1 < B by have := h.lt; omega)).trans h
set_option maxRecDepth 100000 in
theorem Handle.turned {w w' : World} {lo hi : Nat} (h : Handle w) (ht : Turned lo hi w w') (hb : 1 < lo ∨ hi ≤ 1) : Handle w' := (cell_keep (ht.block _ h.lt hb)).trans h
set_option maxRecDepth 100000 in
theorem Handle.ne {w : World} {b : Nat} {T : TypeId} {CS : List Value} {x : Int} (h : Handle w) (hb : bk w b T CS) (h0 : CS[0]? = some (.int .i64 x)) : b ≠ 1 := fun e => by
  subst e
  have h1 := hb.cell 0
  unfold Handle at h
  rw [h, h0] at h1
  cases h1
end Go.Proofs.YtnjpcbmonipaoaaDoor
