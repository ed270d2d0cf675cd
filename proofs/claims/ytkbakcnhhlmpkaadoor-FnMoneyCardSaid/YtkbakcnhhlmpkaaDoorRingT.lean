/- The law package's copy of a ring, its size; a ring that a law is given. No conditions. -/
import Derived.Test.YtkbakcnhhlmpkaaDoorRingL
import Derived.Test.YtkbakcnhhlmpkaaDoorOpens
set_option linter.unusedVariables false
namespace Go.Proofs.YtkbakcnhhlmpkaaDoor
open Go.ChangeShapes Go.WideShapes Go.ChangeAt Go.RowKit Go.Deep

set_option maxRecDepth 100000 in
/-- one's own rows in the blocks of a frame that is written -/
theorem bk.cells {w : World} {g : Nat} {t : TypeId} {a b c d : Value} (h : bk w g t [a, b, c, d]) : (w.cell? ⟨g, 0, none⟩ = some a ∧ w.cell? ⟨g, 1, none⟩ = some b ∧ w.cell? ⟨g, 2, none⟩ = some c ∧ w.cell? ⟨g, 3, none⟩ = some d) ∧ (w.frozen? ⟨g, 0, none⟩ = false ∧ w.frozen? ⟨g, 1, none⟩ = false ∧ w.frozen? ⟨g, 2, none⟩ = false ∧ w.frozen? ⟨g, 3, none⟩ = false) :=
  ⟨⟨h.cell 0, h.cell 1, h.cell 2, h.cell 3⟩, h.frozen 0, h.frozen 1, h.frozen 2, h.frozen 3⟩
/-- what a ring takes of the bound -/
def ringSz (r : RingD) : Int := r.2.2.1.length + r.2.2.2.length
end Go.Proofs.YtkbakcnhhlmpkaaDoor
