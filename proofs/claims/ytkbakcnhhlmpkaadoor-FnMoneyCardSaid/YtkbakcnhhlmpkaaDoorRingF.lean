/- What the law package's helpers do with rings; no conditions. -/
import Derived.Test.YtkbakcnhhlmpkaaDoorRing
import Derived.Test.YtkbakcnhhlmpkaaDoorNumsI
import Derived.Test.YtkbakcnhhlmpkaaDoorNumT
set_option linter.unusedVariables false
namespace Go.Proofs.YtkbakcnhhlmpkaaDoor
open Go.ChangeShapes Go.WideShapes Go.ChangeAt Go.RowKit

def ringV (r : RingD) (vc vs : Value) : Value := .agg #[.int .i64 r.1, .int .i64 r.2.1, vc, vs]
set_option maxRecDepth 100000 in
theorem nums.apart {K : IntKind} {lo hi : Nat} {w w' : World} {v : Value} {l : List Int} {row : Option Nat} (h : nums K lo hi w v l) (hg : w.grownBy w' row) (hh : hi ≤ w.heap.size) (ha : ∀ b, Proofs.YtkbakcnhhlmpkaaDoor.blk v = some b → row ≠ some b) : nums K lo hi w' v l := by
  obtain ⟨A, c, rfl, hc, hj⟩ := h
  refine ⟨A, c, rfl, hc, fun j hl => ?_⟩
  obtain ⟨b, off, rfl, h1, h2, h3, h4⟩ := hj j hl
  have hk : w'.heap[b]? = w.heap[b]? := hg.block b (by omega) (fun e => by
    refine ha b ?_ e.symm
    cases hn : l.length with
    | zero => omega
    | succ n => rfl)
  exact ⟨b, off, rfl, h1, h2, (cell_keep hk).trans h3, (frozen_keep hk).trans h4⟩
end Go.Proofs.YtkbakcnhhlmpkaaDoor
