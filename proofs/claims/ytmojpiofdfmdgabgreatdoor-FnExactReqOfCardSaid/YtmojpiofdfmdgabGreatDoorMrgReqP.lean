/- What request a message holds: plain facts; no conditions. -/
import Derived.Test.YtmojpiofdfmdgabGreatDoorMrgReqU
import Derived.Test.YtmojpiofdfmdgabGreatDoorMrg4
import Derived.Test.YtmojpiofdfmdgabGreatDoorMrg5
import Derived.Test.YtmojpiofdfmdgabGreatDoorMrg2
set_option linter.unusedVariables false
namespace Go.Proofs.YtmojpiofdfmdgabGreatDoor
open Go.ChangeShapes Go.WideShapes Go.ChangeAt Go.RowKit

/-- the operation of a type and two digits, or 0 -/
def whichL (a c : ByteArray) : Int := if opTxt 0 1 = a ∧ opTxt 1 1 = c then 1 else if opTxt 0 2 = a ∧ opTxt 1 2 = c then 2 else if opTxt 0 3 = a ∧ opTxt 1 3 = c then 3 else if opTxt 0 4 = a ∧ opTxt 1 4 = c then 4 else if opTxt 0 5 = a ∧ opTxt 1 5 = c then 5 else if opTxt 0 6 = a ∧ opTxt 1 6 = c then 6 else if opTxt 0 7 = a ∧ opTxt 1 7 = c then 7 else if opTxt 0 8 = a ∧ opTxt 1 8 = c then 8 else 0
set_option maxRecDepth 100000 in
theorem which_hit {op : Int} (h : 1 ≤ op ∧ op ≤ 8) : whichL (opTxt 0 op) (opTxt 1 op) = op := by
  rcases op_cases h with rfl | rfl | rfl | rfl | rfl | rfl | rfl | rfl <;> decide +kernel
set_option maxRecDepth 100000 in
theorem which_none {a c : ByteArray} (h : ∀ op : Int, 1 ≤ op → op < 9 → ¬ (opTxt 0 op = a ∧ opTxt 1 op = c)) : whichL a c = 0 := by
  unfold whichL
  rw [if_neg (h 1 (by omega) (by omega)), if_neg (h 2 (by omega) (by omega)), if_neg (h 3 (by omega) (by omega)), if_neg (h 4 (by omega) (by omega)), if_neg (h 5 (by omega) (by omega)), if_neg (h 6 (by omega) (by omega)), if_neg (h 7 (by omega) (by omega)), if_neg (h 8 (by omega) (by omega))]
set_option maxRecDepth 100000 in
theorem which_spec (a c : ByteArray) : whichL a c = 0 ∨ ((1 ≤ whichL a c ∧ whichL a c ≤ 8) ∧ opTxt 0 (whichL a c) = a ∧ opTxt 1 (whichL a c) = c) := by
  unfold whichL
  split
  · rename_i h; exact .inr ⟨⟨by omega, by omega⟩, h⟩
  split
  · rename_i h; exact .inr ⟨⟨by omega, by omega⟩, h⟩
  split
  · rename_i h; exact .inr ⟨⟨by omega, by omega⟩, h⟩
  split
  · rename_i h; exact .inr ⟨⟨by omega, by omega⟩, h⟩
  split
  · rename_i h; exact .inr ⟨⟨by omega, by omega⟩, h⟩
  split
  · rename_i h; exact .inr ⟨⟨by omega, by omega⟩, h⟩
  split
  · rename_i h; exact .inr ⟨⟨by omega, by omega⟩, h⟩
  split
  · rename_i h; exact .inr ⟨⟨by omega, by omega⟩, h⟩
  exact .inl rfl

def opM (m : MsgD) : Int := whichL m.1 ((fldTxt m.2 3).extract 0 2)
def qM (m : MsgD) : ReqD := ⟨opM m, fldTxt m.2 2, if decide (opM m = 6) = true then fldTxt m.2 103 else ⟨#[]⟩, if holdU (opM m) = true then bareS (fldTxt m.2 38) else ⟨#[]⟩, fldTxt m.2 11, m.1, if amtU (opM m) = true then narVal (fldTxt m.2 4) else 0, if decide (opM m = 1) = true then narVal (fldTxt m.2 14) else 0⟩
def seenM (m : MsgD) : Bool := (if amtU (opM m) = true then fldHas m.2 4 else true) && (if decide (opM m = 1) = true then fldHas m.2 14 else true)
/-- the request and the code -/
def reqL (m : MsgD) : ReqD × Int := if msgOk m = false then (noQ, 1) else if mtiKn m.1 = false then (noQ, 2) else if fldHas m.2 3 = false then (noQ, 1) else if (seenM m && reqOk (qM m)) = true then (qM m, 0) else (noQ, 1)

set_option maxRecDepth 100000 in
theorem has_mem {l : List FieldD} {no : Int} (h : fldHas l no = true) : ∃ x ∈ l, x.1 = no ∧ fldTxt l no = x.2 := by
  unfold fldHas at h
  rw [List.any_eq_true] at h
  obtain ⟨y, hy, hyn⟩ := h
  cases hf : l.find? (fun x => decide (x.1 = no)) with
  | none => exact absurd hyn (by simpa using List.find?_eq_none.1 hf y hy)
  | some x =>
    refine ⟨x, List.mem_of_find?_eq_some hf, by simpa using List.find?_some hf, ?_⟩
    unfold fldTxt
    rw [hf]; rfl
set_option maxRecDepth 100000 in
theorem has_none {l : List FieldD} {no : Int} (h : fldHas l no = false) : fldTxt l no = ⟨#[]⟩ := by
  unfold fldHas at h
  rw [List.any_eq_false] at h
  have hf : l.find? (fun x => decide (x.1 = no)) = none := List.find?_eq_none.2 fun x hx => h x hx
  unfold fldTxt
  rw [hf]; rfl
set_option maxRecDepth 100000 in
theorem msg_field {m : MsgD} (h : msgOk m = true) {no : Int} (hh : fldHas m.2 no = true) : fOk no (fldTxt m.2 no) = true := by
  obtain ⟨x, hx, rfl, ht⟩ := has_mem hh
  rw [ht]
  simp only [msgOk, Bool.and_eq_true] at h
  obtain ⟨j, hj, rfl⟩ := List.mem_iff_getElem.1 hx
  have := listOk_at h.2 j hj
  simp only [stepOk, Bool.and_eq_true] at this
  have h1 := this.1
  rwa [List.getD_eq_getElem?_getD, List.getElem?_eq_getElem hj] at h1
set_option maxRecDepth 100000 in
theorem txt_small {m : MsgD} {no : Int} {B : Nat} (hs : ∀ x ∈ m.2, x.2.size ≤ B) : (fldTxt m.2 no).size ≤ B := by
  cases h : fldHas m.2 no
  · rw [has_none h]; exact Nat.zero_le _
  · obtain ⟨x, hx, -, ht⟩ := has_mem h
    rw [ht]; exact hs x hx
set_option maxRecDepth 100000 in
theorem txt3 {m : MsgD} (h : msgOk m = true) (hh : fldHas m.2 3 = true) : (fldTxt m.2 3).size = 6 := by
  have := msg_field h hh
  simp only [fOk, show fKind 3 = 1 by decide, show fSize 3 = 6 by decide, okBy, if_true, Bool.and_eq_true, decide_eq_true_eq] at this
  omega
set_option maxRecDepth 100000 in
theorem nar_nil : narOk ⟨#[]⟩ = false := by decide +kernel
set_option maxRecDepth 100000 in
theorem nar_of {m : MsgD} (h : msgOk m = true) {no sz : Int} (hk : fKind no = 1) (hz : fSize no = sz) (h18 : sz ≤ 18) : narOk (fldTxt m.2 no) = fldHas m.2 no := by
  cases hh : fldHas m.2 no
  · rw [has_none hh]; exact nar_nil
  · have := msg_field h hh
    simp only [fOk, hk, hz, okBy, if_true, Bool.and_eq_true, decide_eq_true_eq] at this
    simp only [narOk, this.2, Bool.true_and, decide_eq_true_eq]
    omega
/-- what the program takes for a number that lacks -/
def numIn (s : ByteArray) : Int := if narOk s = true then narVal s else -1
set_option maxRecDepth 100000 in
theorem numIn_has {m : MsgD} (h : msgOk m = true) {no sz : Int} (hk : fKind no = 1) (hz : fSize no = sz) (h18 : sz ≤ 18) : (fldHas m.2 no = true → numIn (fldTxt m.2 no) = narVal (fldTxt m.2 no)) ∧ (fldHas m.2 no = false → numIn (fldTxt m.2 no) = -1) := by
  have := nar_of h hk hz h18
  unfold numIn
  constructor
  · intro hh; rw [if_pos (this.trans hh)]
  · intro hh; rw [if_neg (by rw [this, hh]; simp)]
def rawOp (m : MsgD) : Int := if fldHas m.2 3 = true then opM m else 0
set_option maxRecDepth 100000 in
theorem raw_hit {m : MsgD} (h : rawOp m ≠ 0) : fldHas m.2 3 = true ∧ opM m = rawOp m ∧ isOp (rawOp m) = true ∧ m.1 = opTxt 0 (rawOp m) := by
  unfold rawOp at h ⊢
  by_cases hh : fldHas m.2 3 = true
  · rw [if_pos hh] at h ⊢
    rcases which_spec m.1 ((fldTxt m.2 3).extract 0 2) with h0 | ⟨h1, h2, -⟩
    · exact absurd h0 h
    · exact ⟨hh, rfl, decide_eq_true h1, h2.symm⟩
  · rw [if_neg hh] at h; exact absurd rfl h
set_option maxRecDepth 100000 in
theorem reqL_no {m : MsgD} (hk : mtiKn m.1 = true) (h : fldHas m.2 3 = true → (seenM m && reqOk (qM m)) = false) : reqL m = (noQ, 1) := by
  unfold reqL
  by_cases h1 : msgOk m = false
  · rw [if_pos h1]
  rw [if_neg h1, if_neg (by simp [hk])]
  by_cases h3 : fldHas m.2 3 = false
  · rw [if_pos h3]
  rw [if_neg h3, h (by simpa using h3)]
  rfl
set_option maxRecDepth 100000 in
theorem reqL_yes {m : MsgD} (hm : msgOk m = true) (hk : mtiKn m.1 = true) (h3 : fldHas m.2 3 = true) (h : (seenM m && reqOk (qM m)) = true) : reqL m = (qM m, 0) := by
  unfold reqL
  rw [if_neg (by simp [hm]), if_neg (by simp [hk]), if_neg (by simp [h3]), if_pos h]
end Go.Proofs.YtmojpiofdfmdgabGreatDoor
