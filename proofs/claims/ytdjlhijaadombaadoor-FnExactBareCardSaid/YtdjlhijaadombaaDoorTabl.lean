/- The field table: kinds and sizes by number, as both packages have them; no conditions. -/
import Derived.Test.YtdjlhijaadombaaDoorNums
set_option linter.unusedVariables false
namespace Go.Proofs.YtdjlhijaadombaaDoor
open Go.ChangeShapes Go.WideShapes Go.ChangeAt Go.RowKit

def fKind (no : Int) : Int :=
  if no = 3 ∨ no = 4 ∨ no = 7 ∨ no = 11 ∨ no = 14 ∨ no = 49 then 1 else if no = 37 ∨ no = 38 ∨ no = 39 ∨ no = 41 ∨ no = 95 then 2 else if no = 2 then 3 else if no = 102 ∨ no = 103 then 4 else if no = 48 ∨ no = 54 then 5 else 0
def fSize (no : Int) : Int :=
  if no = 2 then 19 else if no = 3 ∨ no = 11 ∨ no = 38 then 6 else if no = 4 ∨ no = 37 ∨ no = 95 then 12 else if no = 7 then 10 else if no = 14 then 4 else if no = 39 then 2 else if no = 41 then 8 else if no = 49 then 3 else if no = 102 ∨ no = 103 then 20 else if no = 48 ∨ no = 54 then 60 else 0

set_option maxRecDepth 100000 in
theorem specFieldKind_any (no : Int) (w : World) :
    Calls Tryd.prog 31 #[.int .i64 no] w fun e w' => e = .returned (.int .i64 (fKind no)) ∧ w = w' := by
  go_enter Tryd.func31, Tryd.ntmps31
  go_wp2
  all_goals go_ret
  all_goals refine ⟨ret_int ?_, rfl⟩
  all_goals simp only [beq_iff_eq, beq_eq_false_iff_ne, ne_eq] at *
  all_goals first | (subst_vars; rfl) | simp [fKind, *]

set_option maxRecDepth 100000 in
theorem specFieldSize_any (no : Int) (w : World) :
    Calls Tryd.prog 30 #[.int .i64 no] w fun e w' => e = .returned (.int .i64 (fSize no)) ∧ w = w' := by
  go_enter Tryd.func30, Tryd.ntmps30
  go_wp2
  all_goals go_ret
  all_goals refine ⟨ret_int ?_, rfl⟩
  all_goals simp only [beq_iff_eq, beq_eq_false_iff_ne, ne_eq] at *
  all_goals first | (subst_vars; rfl) | simp [fSize, *]
set_option maxRecDepth 100000 in
theorem fSize_no {no : Int} (h : fKind no = 0) : fSize no = 0 := by
  unfold fKind at h
  unfold fSize
  repeat' (split at h <;> try omega)
  repeat' (split <;> try omega)
end Go.Proofs.YtdjlhijaadombaaDoor
