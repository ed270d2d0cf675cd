/- RingNew of the reference; no conditions. -/
import Derived.Test.YteogdfiaobccfaaDoorRingS
import Derived.Test.YteogdfiaobccfaaDoorRowS
import Derived.RegionTactic
set_option linter.unusedVariables false
namespace Go.Proofs.YteogdfiaobccfaaDoor
open Go.ChangeShapes Go.WideShapes Go.ChangeAt Go.RowKit

set_option maxRecDepth 100000 in
theorem infoIntN : (Tryd.prog.info? 3).map (fun i => (i.zero.map (·.cells), i.size, i.bytes)) = some (some #[.int .i64 0], 1, 8) := by kernel_rfl
def ringNew (n sp : Int) : RingD × Bool := if (inB n 1 8 && inB sp 1 1000) = true then ((sp, 0, List.replicate n.toNat 0, List.replicate n.toNat 0), true) else ((0, 0, [], []), false)
def ringRes (r : RingD) (ok : Bool) (w : World) (e : Ending) (w' : World) : Prop := ∃ vc vs, e = .returned (.tuple #[.agg #[.int .i64 r.1, .int .i64 r.2.1, vc, vs], .bool ok]) ∧ RingR.mine w.heap.size w'.heap.size w' [.int .i64 r.1, .int .i64 r.2.1, vc, vs] r ∧ Below w.heap.size w w'

set_option maxRecDepth 100000 in
theorem ringNew_len (n sp : Int) : (ringNew n sp).1.2.2.1.length ≤ 8 ∧ (ringNew n sp).1.2.2.2.length ≤ 8 := by
  unfold ringNew
  split
  · rename_i h
    simp only [Bool.and_eq_true, inB, decide_eq_true_eq] at h
    simp only [List.length_replicate]; omega
  · exact ⟨Nat.zero_le _, Nat.zero_le _⟩

set_option maxRecDepth 100000 in
/-- zeros that have just been made -/
theorem made_nums {w : World} {g k lo hi : Nat} {T : TypeId} (u : World) (hu : u.heap.size = g) (h : w.heap[g]? = (u.alloc (.cells (madeCells #[.int .i64 0] k) T)).heap[g]?) (h1 : lo ≤ g) (h2 : g < hi) : nums .i64 lo hi w (.slice (some ⟨g, 0, none⟩) k k) (List.replicate k 0) := by
  subst hu
  have hr := World.rowIs_made u (.int .i64 0) k T
  refine ⟨_, k, by simp, by simp, fun j hj => ⟨u.heap.size, 0, rfl, h1, h2, ?_, ?_⟩⟩
  · rw [List.length_replicate] at hj
    rw [Nat.zero_add, cell_keep h, World.rowIs.cell hr hj, List.getD_eq_getElem?_getD, List.getElem?_replicate, if_pos hj]
    rfl
  · rw [frozen_keep h]; exact World.rowIs.frozen hr _

end Go.Proofs.YteogdfiaobccfaaDoor
