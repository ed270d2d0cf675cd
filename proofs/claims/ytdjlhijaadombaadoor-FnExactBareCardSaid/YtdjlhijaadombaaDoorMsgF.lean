/- FieldOf, WithoutField and MsgSame of the reference; no conditions. -/
import Derived.Test.YtdjlhijaadombaaDoorMsgRow
import Derived.BigQuiet
import Derived.Deep.QuietTactic
set_option linter.unusedVariables false
namespace Go.Proofs.YtdjlhijaadombaaDoor
open Go.ChangeShapes Go.WideShapes Go.ChangeAt Go.RowKit

def fldHas (l : List FieldD) (no : Int) : Bool := l.any fun x => decide (x.1 = no)
def fldTxt (l : List FieldD) (no : Int) : ByteArray := ((l.find? fun x => decide (x.1 = no)).map (·.2)).getD ⟨#[]⟩
set_option maxRecDepth 100000 in
theorem find_at {l : List FieldD} {no : Int} {i : Nat} {x : FieldD} (hN : ∀ j y, j < i → l[j]? = some y → y.1 ≠ no) (hx : l[i]? = some x) (he : x.1 = no) : fldHas l no = true ∧ fldTxt l no = x.2 := by
  obtain ⟨hi, rfl⟩ := List.getElem?_eq_some_iff.1 hx
  have h1 : l.find? (fun x => decide (x.1 = no)) = some l[i] := by
    rw [List.find?_eq_some_iff_getElem]
    refine ⟨by simpa using he, i, hi, rfl, fun j hj => ?_⟩
    have := hN j _ hj (List.getElem?_eq_getElem (by omega))
    simpa using this
  constructor
  · unfold fldHas; rw [List.any_eq_true]; exact ⟨_, List.getElem_mem hi, by simpa using he⟩
  · unfold fldTxt; rw [h1]; rfl
set_option maxRecDepth 100000 in
theorem find_none {l : List FieldD} {no : Int} (hN : ∀ j y, j < l.length → l[j]? = some y → y.1 ≠ no) : fldHas l no = false ∧ fldTxt l no = ⟨#[]⟩ := by
  have hall : ∀ x ∈ l, ¬ x.1 = no := fun x hx => by
    obtain ⟨j, hj⟩ := List.mem_iff_getElem?.1 hx
    exact hN j x (List.getElem?_eq_some_iff.1 hj).1 hj
  constructor
  · unfold fldHas; rw [List.any_eq_false]; intro x hx; simpa using hall x hx
  · unfold fldTxt
    rw [List.find?_eq_none.2 (fun x hx => by simpa using hall x hx)]
    rfl
def withoutL (l : List FieldD) (no : Int) : List FieldD := l.filter fun x => decide (x.1 ≠ no)
set_option maxRecDepth 100000 in
theorem without_snoc (l : List FieldD) (x : FieldD) (no : Int) : withoutL (l ++ [x]) no = if x.1 = no then withoutL l no else withoutL l no ++ [x] := by
  unfold withoutL
  rw [List.filter_append]
  by_cases h : x.1 = no <;> simp [h]
set_option maxRecDepth 100000 in
theorem take_next {α : Type} {l : List α} {i : Nat} {x : α} (h : l[i]? = some x) : l.take (i + 1) = l.take i ++ [x] := by
  obtain ⟨hi, rfl⟩ := List.getElem?_eq_some_iff.1 h
  rw [List.take_succ_eq_append_getElem hi]
/-- a message alone -/
def msgOnly (r : MsgD) (w : World) (e : Ending) (w' : World) : Prop := ∃ u, e = .returned (.agg #[.string r.1, u]) ∧ FieldsR.mine w.heap.size w'.heap.size w' [u] r.2 ∧ Below w.heap.size w w'
set_option maxRecDepth 100000 in
theorem str_ne {a b : ByteArray} (h : a ≠ b) : (a.toList == b.toList) = false := by
  rw [beq_eq_false_iff_ne, ByteArray.toList_eq, ByteArray.toList_eq]
  intro e
  exact h (ByteArray.ext (Array.toList_inj.1 e))
set_option maxRecDepth 100000 in
theorem same_no {a b : MsgD} {i : Nat} {x y : FieldD} (hx : a.2[i]? = some x) (hy : b.2[i]? = some y) (h : x ≠ y) : decide (a = b) = false := by
  rw [decide_eq_false_iff_not]
  rintro rfl
  exact h (Option.some.inj (hx.symm.trans hy))
set_option maxRecDepth 100000 in
theorem same_yes {a b : MsgD} (h1 : a.1 = b.1) (hl : a.2.length = b.2.length) (h : ∀ j x, j < a.2.length → a.2[j]? = some x → b.2[j]? = some x) : decide (a = b) = true := by
  rw [decide_eq_true_eq]
  refine Prod.ext h1 (List.ext_getElem hl fun j hj1 hj2 => ?_)
  have := h j _ hj1 (List.getElem?_eq_getElem hj1)
  rw [List.getElem?_eq_getElem hj2] at this
  exact (Option.some.inj this).symm
end Go.Proofs.YtdjlhijaadombaaDoor
