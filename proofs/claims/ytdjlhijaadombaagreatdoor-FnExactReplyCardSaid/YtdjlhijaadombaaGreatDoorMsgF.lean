/- FieldOf, WithoutField and MsgSame of the reference; no conditions. -/
import Derived.Test.YtdjlhijaadombaaGreatDoorMsgRow
import Derived.BigQuiet
import Derived.Deep.QuietTactic
set_option linter.unusedVariables false
namespace Go.Proofs.YtdjlhijaadombaaGreatDoor
open Go.ChangeShapes Go.WideShapes Go.ChangeAt Go.RowKit

def fldHas (l : List FieldD) (no : Int) : Bool := l.any fun x => decide (x.1 = no)
def fldTxt (l : List FieldD) (no : Int) : ByteArray := ((l.find? fun x => decide (x.1 = no)).map (·.2)).getD ⟨#[]⟩
set_option maxRecDepth 100000 in
theorem find_at {l : List FieldD} {no : Int} {i : Nat} {x : FieldD} (hN : ∀ j y, j < i → l[j]? = some y → y.1 ≠ no) (hx : l[i]? = some x) (he : x.1 = no) : fldHas l no = true ∧ fldTxt l no = x.2 := by
  obtain ⟨hi, rfl⟩ := List.getElem?_eq_some_iff.1 hx
  have h1 : l.find? (fun x => decide (x.1 = no)) = some l[i] := by
    rw [List.find?_eq_some_iff_getElem]
    refine ⟨by simpa using he, i, hi, rfl, fun j hj => ?_⟩
    have := hN j _ hj (List.getElem?_eq_getElem (by omega))
    simpa using this
  constructor
  · unfold fldHas; rw [List.any_eq_true]; exact ⟨_, List.getElem_mem hi, by simpa using he⟩
  · unfold fldTxt; rw [h1]; rfl
set_option maxRecDepth 100000 in
theorem find_none {l : List FieldD} {no : Int} (hN : ∀ j y, j < l.length → l[j]? = some y → y.1 ≠ no) : fldHas l no = false ∧ fldTxt l no = ⟨#[]⟩ := by
  have hall : ∀ x ∈ l, ¬ x.1 = no := fun x hx => by
    obtain ⟨j, hj⟩ := List.mem_iff_getElem?.1 hx
    exact hN j x (List.getElem?_eq_some_iff.1 hj).1 hj
  constructor
  · unfold fldHas; rw [List.any_eq_false]; intro x hx; simpa using hall x hx
  · unfold fldTxt
    rw [List.find?_eq_none.2 (fun x hx => by simpa using hall x hx)]
    rfl
set_option maxRecDepth 100000 in
set_option maxHeartbeats 1600000 in
theorem specFieldOf_any (hi : Nat) (v : Value) (m : MsgD) (no : Int) (w : World) (hn : m.2.length ≤ 1048576) (h : FieldsR.rd hi w [v] m.2) (hh : hi ≤ w.heap.size) :
    Calls Tryz.prog 15 #[.agg #[.string m.1, v], .int .i64 no] w fun e w' => e = .returned (.tuple #[.string (fldTxt m.2 no), .bool (fldHas m.2 no)]) ∧ Below w.heap.size w w' := by
  obtain ⟨A, c, rfl, hc, h'⟩ := fields_rd h
  have HR := Lib.hid h'
  clear h' h
  go_enter Tryz.func15, Tryz.ntmps15
  go_wp2
  have HB0 : Hid (Below w.heap.size w (w.alloc (.cells #[.string m.1, .slice A m.2.length c] 28))) := Lib.hid ((Below.refl _ _).alloc (Nat.le_refl _) _)
  go_loopw [11] (fun iv wr => ∃ i : Nat, i ≤ m.2.length ∧ iv = .int .i64 i ∧ Hid (∀ j y, j < i → m.2[j]? = some y → y.1 ≠ no) ∧ Hid (Below w.heap.size w wr) ∧ w.heap.size ≤ wr.heap.size) (fun iv _ => m.2.length - (intOf iv).toNat)
  case atStart => exact ⟨0, Nat.zero_le _, rfl, Lib.hid (fun j y hj => absurd hj (by omega)), HB0, by simp⟩
  case round =>
    obtain ⟨i, hi', rfl, HN, HB, hz⟩ := hrel
    by_cases hin : i < m.2.length
    · obtain ⟨x, hx⟩ : ∃ x, m.2[i]? = some x := ⟨_, List.getElem?_eq_getElem hin⟩
      obtain ⟨b, off, rfl, hbl, c0, c1⟩ := HR.out i x hx
      have HX := Lib.hid hx
      have c0 := (HB.out.cell (p := ⟨b, off + i * 2, none⟩) (show b < w.heap.size by omega)).trans c0
      have c1 := (HB.out.cell (p := ⟨b, off + i * 2 + 1, none⟩) (show b < w.heap.size by omega)).trans c1
      have g1 : (i : Int) < (m.2.length : Int) := by omega
      have g2 : 0 ≤ (i : Int) := by omega
      clear hx
      by_cases he : x.1 = no
      · have HF := Lib.hid (find_at HN.out HX.out he)
        have he' : (x.1 == no) = true := by simpa using he
        clear he
        go_wp2
        go_ret2
        rw [HF.out.1, HF.out.2]
        exact ⟨rfl, HB.out.alloc hz _⟩
      · have he' : (x.1 == no) = false := by simpa using he
        have HE := Lib.hid he
        clear he
        go_wp2
        go_roundw
        case rel => exact ⟨i + 1, by omega, by go_num, Lib.hid (fun j y hj hy => by
          by_cases e : j = i
          · subst e; rw [HX.out] at hy; cases hy; exact HE.out
          · exact HN.out j y (by omega) hy), Lib.hid (HB.out.alloc hz _), by simp; omega⟩
        case measure => simp [intOf] <;> omega
    · obtain rfl : i = m.2.length := by omega
      have HF := Lib.hid (find_none HN.out)
      go_wp2
      go_ret2
      rw [HF.out.1, HF.out.2]
      exact ⟨rfl, HB.out⟩
def withoutL (l : List FieldD) (no : Int) : List FieldD := l.filter fun x => decide (x.1 ≠ no)
set_option maxRecDepth 100000 in
theorem without_snoc (l : List FieldD) (x : FieldD) (no : Int) : withoutL (l ++ [x]) no = if x.1 = no then withoutL l no else withoutL l no ++ [x] := by
  unfold withoutL
  rw [List.filter_append]
  by_cases h : x.1 = no <;> simp [h]
set_option maxRecDepth 100000 in
theorem take_next {α : Type} {l : List α} {i : Nat} {x : α} (h : l[i]? = some x) : l.take (i + 1) = l.take i ++ [x] := by
  obtain ⟨hi, rfl⟩ := List.getElem?_eq_some_iff.1 h
  rw [List.take_succ_eq_append_getElem hi]
/-- a message alone -/
def msgOnly (r : MsgD) (w : World) (e : Ending) (w' : World) : Prop := ∃ u, e = .returned (.agg #[.string r.1, u]) ∧ FieldsR.mine w.heap.size w'.heap.size w' [u] r.2 ∧ Below w.heap.size w w'
set_option maxRecDepth 100000 in
theorem str_ne {a b : ByteArray} (h : a ≠ b) : (a.toList == b.toList) = false := by
  rw [beq_eq_false_iff_ne, ByteArray.toList_eq, ByteArray.toList_eq]
  intro e
  exact h (ByteArray.ext (Array.toList_inj.1 e))
set_option maxRecDepth 100000 in
theorem same_no {a b : MsgD} {i : Nat} {x y : FieldD} (hx : a.2[i]? = some x) (hy : b.2[i]? = some y) (h : x ≠ y) : decide (a = b) = false := by
  rw [decide_eq_false_iff_not]
  rintro rfl
  exact h (Option.some.inj (hx.symm.trans hy))
set_option maxRecDepth 100000 in
theorem same_yes {a b : MsgD} (h1 : a.1 = b.1) (hl : a.2.length = b.2.length) (h : ∀ j x, j < a.2.length → a.2[j]? = some x → b.2[j]? = some x) : decide (a = b) = true := by
  rw [decide_eq_true_eq]
  refine Prod.ext h1 (List.ext_getElem hl fun j hj1 hj2 => ?_)
  have := h j _ hj1 (List.getElem?_eq_getElem hj1)
  rw [List.getElem?_eq_getElem hj2] at this
  exact (Option.some.inj this).symm
end Go.Proofs.YtdjlhijaadombaaGreatDoor
