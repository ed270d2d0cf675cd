/- SlotOf of the reference; no conditions. -/
import Derived.Test.YtpeeagkfhdeagaaDoorSlotS
import Derived.Test.YtpeeagkfhdeagaaDoorHoldA
set_option linter.unusedVariables false
namespace Go.Proofs.YtpeeagkfhdeagaaDoor
open Go.ChangeShapes Go.WideShapes Go.ChangeAt Go.RowKit

set_option maxRecDepth 100000 in
theorem ow_made (T : TypeId) (K : IntKind) (w : World) : ow T K w.heap.size (w.alloc (.cells #[] T)) (.slice (some ⟨w.heap.size, 0, none⟩) 0 0) [] := by
  refine ⟨rfl, Or.inr ⟨w.heap.size, 0, #[], rfl, Nat.le_refl _, ?_, Nat.le_refl _, Nat.zero_le _, rfl, rfl⟩⟩
  show (w.heap.push _)[w.heap.size]? = _
  simp
/-- the first with this trace and this type: its reply -/
def isSlot (t m : ByteArray) (x : SlotD) : Bool := decide (x.1 = t) && decide (x.2.1 = m)
def slotOfL (l : List SlotD) (t m : ByteArray) : List Int × Bool := match l.find? (isSlot t m) with | some x => (x.2.2, true) | none => ([], false)
set_option maxRecDepth 100000 in
theorem slotOf_none {l : List SlotD} {t m : ByteArray} (h : ∀ x ∈ l, isSlot t m x = false) : slotOfL l t m = ([], false) := by
  have h1 : l.find? (isSlot t m) = none := List.find?_eq_none.2 fun x hx => by rw [h x hx]; exact Bool.false_ne_true
  unfold slotOfL
  rw [h1]
set_option maxRecDepth 100000 in
theorem slotOf_some {l : List SlotD} {t m : ByteArray} {i : Nat} {x : SlotD} (hx : l[i]? = some x) (he : isSlot t m x = true) (h : ∀ y ∈ l.take i, isSlot t m y = false) : slotOfL l t m = (x.2.2, true) := by
  obtain ⟨hi, rfl⟩ := List.getElem?_eq_some_iff.1 hx
  have h1 : l.find? (isSlot t m) = some l[i] := by
    rw [List.find?_eq_some_iff_getElem]
    refine ⟨he, i, hi, rfl, fun j hj => ?_⟩
    have hm : l[j] ∈ l.take i := by rw [List.mem_take_iff_getElem]; exact ⟨j, by omega, rfl⟩
    rw [h _ hm]; rfl
  unfold slotOfL
  rw [h1]
def bytesRes (l : List Int) (ok : Bool) (w : World) (e : Ending) (w' : World) : Prop := ∃ u, e = .returned (.tuple #[u, .bool ok]) ∧ nums .u8 w.heap.size w'.heap.size w' u l ∧ Below w.heap.size w w'
end Go.Proofs.YtpeeagkfhdeagaaDoor
