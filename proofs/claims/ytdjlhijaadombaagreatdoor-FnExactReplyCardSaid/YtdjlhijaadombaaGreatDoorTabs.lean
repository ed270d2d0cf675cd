/- The program's own field table: what fieldTable lays, what fieldAt finds; no conditions. -/
import Derived.Test.YtdjlhijaadombaaGreatDoorTabl
import Derived.Test.YtdjlhijaadombaaGreatDoorMem
import Derived.Laws.EntriesVeiled
import Derived.Laws.Rows
set_option linter.unusedVariables false
namespace Go.Proofs.YtdjlhijaadombaaGreatDoor
open Go.ChangeShapes Go.WideShapes Go.ChangeAt Go.RowKit

def fNos : List Int := [2, 3, 4, 7, 11, 14, 37, 38, 39, 41, 48, 49, 54, 95, 102, 103]
def putId (k : Int) : FuncId := if k = 1 then 57 else if k = 2 then 59 else if k = 3 then 61 else if k = 4 then 63 else 65
def getId (k : Int) : FuncId := if k = 1 then 58 else if k = 2 then 60 else if k = 3 then 62 else if k = 4 then 64 else 66
def putV (no : Int) : Value := if fKind no = 0 then .nilFunc else .func (.func (putId (fKind no))) #[] #[]
def getV (no : Int) : Value := if fKind no = 0 then .nilFunc else .func (.func (getId (fKind no))) #[] #[]
def rowCells (no : Int) : List Value := [.int .i64 no, .int .i64 (fSize no), .int .i64 (fKind no), .func (.func (putId (fKind no))) #[] #[], .func (.func (getId (fKind no))) #[] #[]]
def fTab : List Value := fNos.flatMap rowCells
/-- a row with its five cells -/
def rowV (no : Int) : Value := if fKind no = 0 then .agg #[.int .i64 0, .int .i64 0, .int .i64 0, .nilFunc, .nilFunc] else .agg (rowCells no).toArray

set_option maxRecDepth 100000 in
theorem last_block (w : World) (o : Obj) (n : Nat) (h : n = w.heap.size) : (w.alloc o).heap[n]? = some o := by subst h; exact heap_alloc_new _ _
def isTab (w : World) (e : Ending) (w' : World) : Prop := ∃ b, e = .returned (.slice (some ⟨b, 0, none⟩) 16 16) ∧ w.heap.size ≤ b ∧ b < w'.heap.size ∧ w'.heap[b]? = some (.cells fTab.toArray 70 (0, 0)) ∧ Below w.heap.size w w'
set_option maxRecDepth 100000 in
set_option maxHeartbeats 4000000 in
theorem fieldTable_any (w : World) :
    Calls Tryz.prog 46 #[] w (isTab w) := by
  go_enter Tryz.func46, Tryz.ntmps46
  go_wp2
  go_ret
  refine ⟨_, rfl, by omega, by simp, ?_, ((((((Below.refl _ _).alloc (Nat.le_refl _) _).alloc (by simp <;> omega) _).alloc (by simp <;> omega) _).alloc (by simp <;> omega) _).alloc (by simp <;> omega) _).alloc (by simp <;> omega) _⟩
  refine (last_block _ _ _ (by simp)).trans ?_
  kernel_rfl
set_option maxRecDepth 100000 in
theorem tab_cells (k : Nat) (hk : k < 16) (j : Nat) (hj : j < 5) : fTab[k * 5 + j]? = (rowCells (fNos.getD k 0))[j]? := by
  have hk' : k = 0 ∨ k = 1 ∨ k = 2 ∨ k = 3 ∨ k = 4 ∨ k = 5 ∨ k = 6 ∨ k = 7 ∨ k = 8 ∨ k = 9 ∨ k = 10 ∨ k = 11 ∨ k = 12 ∨ k = 13 ∨ k = 14 ∨ k = 15 := by omega
  have hj' : j = 0 ∨ j = 1 ∨ j = 2 ∨ j = 3 ∨ j = 4 := by omega
  rcases hk' with rfl | rfl | rfl | rfl | rfl | rfl | rfl | rfl | rfl | rfl | rfl | rfl | rfl | rfl | rfl | rfl <;> rcases hj' with rfl | rfl | rfl | rfl | rfl <;> rfl
end Go.Proofs.YtdjlhijaadombaaGreatDoor
