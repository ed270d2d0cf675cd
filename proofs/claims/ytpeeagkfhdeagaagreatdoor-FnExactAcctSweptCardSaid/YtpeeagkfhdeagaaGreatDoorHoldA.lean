/- Rows of holds that are appended to; no conditions. -/
import Derived.Test.YtpeeagkfhdeagaaGreatDoorHoldP
import Derived.Test.YtpeeagkfhdeagaaGreatDoorAppS
import Derived.Test.YtpeeagkfhdeagaaGreatDoorMem
set_option linter.unusedVariables false
namespace Go.Proofs.YtpeeagkfhdeagaaGreatDoor
open Go.ChangeShapes Go.WideShapes Go.ChangeAt Go.RowKit

set_option maxRecDepth 100000 in
theorem hCells_one (x : HoldD) : ∀ u ∈ hCells x, u.oneCell' = true := by
  intro u hu
  simp only [hCells, List.mem_cons, List.not_mem_nil, or_false] at hu
  rcases hu with rfl | rfl | rfl <;> rfl
set_option maxRecDepth 100000 in
/-- a row that was appended to, as holds of one's own -/
theorem owE_holds {B : Nat} {w : World} {T : TypeId} {v : Value} {l : List HoldD} (h : owE T 3 hCells B w v l) : HoldsR.mine B w.heap.size w [v] l := by
  rcases h.filled (fun _ => rfl) noH with ⟨rfl, A, c, rfl⟩ | ⟨b, c, rfl, hc, h1, h2, hf⟩
  · exact ⟨[], ⟨A, c, rfl, Nat.zero_le _, .inl ⟨rfl, rfl⟩⟩, List.nodup_nil, by simp⟩
  · exact holds_mine rfl hc h1 h2 hf
set_option maxRecDepth 100000 in
theorem bk.cells3 {w : World} {g : Nat} {t : TypeId} {a b c : Value} (h : bk w g t [a, b, c]) : w.cell? ⟨g, 0, none⟩ = some a ∧ w.cell? ⟨g, 1, none⟩ = some b ∧ w.cell? ⟨g, 2, none⟩ = some c := ⟨h.cell 0, h.cell 1, h.cell 2⟩
set_option maxRecDepth 100000 in
theorem holds_none (lo hi : Nat) (w : World) : HoldsR.mine lo hi w [.slice none 0 0] [] := ⟨[], ⟨none, 0, rfl, Nat.le_refl _, .inl ⟨rfl, rfl⟩⟩, List.nodup_nil, by simp⟩
set_option maxRecDepth 100000 in
theorem str_eq_list {a b : ByteArray} : a.toList = b.toList ↔ a = b := by
  constructor
  · intro h
    apply ByteArray.ext
    apply Array.toList_inj.1
    rwa [ByteArray.toList_eq, ByteArray.toList_eq] at h
  · rintro rfl; rfl
/-- holds as they are given back -/
def holdsOne (l : List HoldD) (w : World) (e : Ending) (w' : World) : Prop := ∃ u, e = .returned u ∧ HoldsR.mine w.heap.size w'.heap.size w' [u] l ∧ Below w.heap.size w w'
end Go.Proofs.YtpeeagkfhdeagaaGreatDoor
