/- The contracts about rings in one word for a ring's memory; no conditions. -/
import Derived.Test.YtkbakcnhhlmpkaaDoorRingT
set_option linter.unusedVariables false
namespace Go.Proofs.YtkbakcnhhlmpkaaDoor
open Go.ChangeShapes Go.WideShapes Go.ChangeAt Go.RowKit

set_option maxRecDepth 100000 in
theorem ring2 {hi : Nat} {w : World} {x y : Int} {vc vs : Value} {r : RingD} (h : RingR.rd hi w [.int .i64 x, .int .i64 y, vc, vs] r) : rd .i64 hi w vc r.2.2.1 ∧ rd .i64 hi w vs r.2.2.2 := by
  obtain ⟨c, s, e, h1, h2⟩ := ring_rd h
  simp only [List.cons.injEq, and_true] at e
  obtain ⟨-, -, rfl, rfl⟩ := e
  exact ⟨h1, h2⟩
set_option maxRecDepth 100000 in
theorem ring_mk {hi : Nat} {w : World} {vc vs : Value} {r : RingD} (h1 : rd .i64 hi w vc r.2.2.1) (h2 : rd .i64 hi w vs r.2.2.2) : RingR.rd hi w [.int .i64 r.1, .int .i64 r.2.1, vc, vs] r := ring_rd_of h1 h2
set_option maxRecDepth 100000 in
theorem ringOwn {lo hi : Nat} {w : World} {x y : Int} {vc vs : Value} {r : RingD} (h : RingR.mine lo hi w [.int .i64 x, .int .i64 y, vc, vs] r) : nums .i64 lo hi w vc r.2.2.1 ∧ nums .i64 lo hi w vs r.2.2.2 ∧ ∀ b, blk vc = some b → blk vs ≠ some b := by
  obtain ⟨c, s, e, h1, h2, h3⟩ := ring_mine h
  simp only [List.cons.injEq, and_true] at e
  obtain ⟨-, -, rfl, rfl⟩ := e
  exact ⟨h1, h2, h3⟩
/-- a ring whose buckets are marked -/
def markedR (r : RingD) (k : Int) : RingD := (r.1, r.2.1, marksL (fun x => x) k r.2.2.1.length, marksL (fun x => x) (k + r.2.2.1.length) r.2.2.2.length)
end Go.Proofs.YtkbakcnhhlmpkaaDoor
