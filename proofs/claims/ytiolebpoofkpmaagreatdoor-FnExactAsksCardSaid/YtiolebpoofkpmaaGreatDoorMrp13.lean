/- ReqOf of the reference and of the program answer alike; the table of operations lies as Go's text lays it, errNotDigits holds an error. -/
import Derived.Test.YtiolebpoofkpmaaGreatDoorMrpReqRP
import Derived.Test.YtiolebpoofkpmaaGreatDoorMrpReqRA
import Derived.Test.YtiolebpoofkpmaaGreatDoorMrpReqRF
import Derived.Test.YtiolebpoofkpmaaGreatDoorMrpReqRM
import Derived.Test.YtiolebpoofkpmaaGreatDoorMrpReqRU
set_option linter.unusedVariables false
namespace Go.Proofs.YtiolebpoofkpmaaGreatDoor
open Go.ChangeShapes Go.WideShapes Go.ChangeAt Go.RowKit

set_option maxRecDepth 100000 in
theorem specReqOf_any (hi : Nat) (v : Value) (m : MsgD) (w : World) (hn : m.2.length ≤ 1048576) (h : FieldsR.rd hi w [v] m.2) (hh : hi ≤ w.heap.size) (hsm : m.1.size ≤ maxLen) (hs : ∀ x ∈ m.2, x.2.size ≤ 1048576) :
    Calls Tryz.prog 13 #[.agg #[.string m.1, v]] w fun e w' => e = .returned (qRes (reqL m)) ∧ Below w.heap.size w w' := by
  by_cases hok : msgOk m = true ∧ mtiKn m.1 = true ∧ fldHas m.2 3 = true
  · obtain ⟨h1, h2, h3⟩ := hok
    have hyes : (seenM m && reqOk (qM m)) = true → reqL m = (qM m, 0) := reqL_yes h1 h2 h3
    have hno : ¬ ((seenM m && reqOk (qM m)) = true) → reqL m = (noQ, 1) := fun hx => reqL_no h2 fun _ => by simpa using hx
    have hc : opM m = 1 ∨ (opM m = 2 ∨ opM m = 3 ∨ opM m = 4) ∨ opM m = 5 ∨ opM m = 6 ∨ (opM m = 0 ∨ opM m = 7 ∨ opM m = 8) := by
      rcases which_spec m.1 ((fldTxt m.2 3).extract 0 2) with h0 | ⟨⟨ha, hb⟩, -⟩
      · have : opM m = 0 := h0
        omega
      · have ha : 1 ≤ opM m := ha
        have hb : opM m ≤ 8 := hb
        omega
    rcases hc with hc | hc | hc | hc | hc
    · have e1 : holdU (opM m) = true := by rw [hc]; decide
      have e2 : amtU (opM m) = true := by rw [hc]; decide
      have e3 : decide (opM m = 1) = true := decide_eq_true hc
      have e4 : decide (opM m = 6) = false := decide_eq_false (by omega)
      have hq : qM m = ⟨opM m, fldTxt m.2 2, ⟨#[]⟩, bareS (fldTxt m.2 38), fldTxt m.2 11, m.1, narVal (fldTxt m.2 4), narVal (fldTxt m.2 14)⟩ := by
        unfold qM; rw [e1, e2, e3, e4]; rfl
      have hse : seenM m = (fldHas m.2 4 && fldHas m.2 14) := by unfold seenM; rw [e2, e3]; rfl
      rw [hq, hse] at hyes hno
      exact specReqOf_auth hi v m w hn h hh hsm hs h1 h2 h3 _ hc rfl _ (fun a b => hyes (by rw [a, b]; rfl)) fun a => hno (by rw [Bool.and_eq_true]; exact a)
    · have e1 : holdU (opM m) = true := by simp [holdU, isOp]; omega
      have e2 : amtU (opM m) = true := by simp [amtU]; omega
      have e3 : decide (opM m = 1) = false := decide_eq_false (by omega)
      have e4 : decide (opM m = 6) = false := decide_eq_false (by omega)
      have hq : qM m = ⟨opM m, fldTxt m.2 2, ⟨#[]⟩, bareS (fldTxt m.2 38), fldTxt m.2 11, m.1, narVal (fldTxt m.2 4), 0⟩ := by
        unfold qM; rw [e1, e2, e3, e4]; rfl
      have hse : seenM m = fldHas m.2 4 := by unfold seenM; rw [e2, e3]; exact Bool.and_true _
      rw [hq, hse] at hyes hno
      exact specReqOf_amt hi v m w hn h hh hsm hs h1 h2 h3 _ hc rfl _ (fun a b => hyes (by rw [a, b]; rfl)) fun a => hno (by rw [Bool.and_eq_true]; exact a)
    · have e1 : holdU (opM m) = true := by rw [hc]; decide
      have e2 : amtU (opM m) = false := by rw [hc]; decide
      have e3 : decide (opM m = 1) = false := decide_eq_false (by omega)
      have e4 : decide (opM m = 6) = false := decide_eq_false (by omega)
      have hq : qM m = ⟨opM m, fldTxt m.2 2, ⟨#[]⟩, bareS (fldTxt m.2 38), fldTxt m.2 11, m.1, 0, 0⟩ := by
        unfold qM; rw [e1, e2, e3, e4]; rfl
      have hse : seenM m = true := by unfold seenM; rw [e2, e3]; rfl
      rw [hq, hse] at hyes hno
      exact specReqOf_free hi v m w hn h hh hsm hs h1 h2 h3 _ hc rfl _ (fun a b => hyes (by rw [b]; rfl)) fun a => hno (by rw [Bool.and_eq_true]; exact a)
    · have e1 : holdU (opM m) = true := by rw [hc]; decide
      have e2 : amtU (opM m) = false := by rw [hc]; decide
      have e3 : decide (opM m = 1) = false := decide_eq_false (by omega)
      have e4 : decide (opM m = 6) = true := decide_eq_true hc
      have hq : qM m = ⟨opM m, fldTxt m.2 2, fldTxt m.2 103, bareS (fldTxt m.2 38), fldTxt m.2 11, m.1, 0, 0⟩ := by
        unfold qM; rw [e1, e2, e3, e4]; rfl
      have hse : seenM m = true := by unfold seenM; rw [e2, e3]; rfl
      rw [hq, hse] at hyes hno
      exact specReqOf_move hi v m w hn h hh hsm hs h1 h2 h3 _ hc rfl _ (fun a b => hyes (by rw [b]; rfl)) fun a => hno (by rw [Bool.and_eq_true]; exact a)
    · have e1 : holdU (opM m) = false := by simp [holdU, isOp]; omega
      have e2 : amtU (opM m) = false := by simp [amtU]; omega
      have e3 : decide (opM m = 1) = false := decide_eq_false (by omega)
      have e4 : decide (opM m = 6) = false := decide_eq_false (by omega)
      have hq : qM m = ⟨opM m, fldTxt m.2 2, ⟨#[]⟩, ⟨#[]⟩, fldTxt m.2 11, m.1, 0, 0⟩ := by
        unfold qM; rw [e1, e2, e3, e4]; rfl
      have hse : seenM m = true := by unfold seenM; rw [e2, e3]; rfl
      rw [hq, hse] at hyes hno
      exact specReqOf_plain hi v m w hn h hh hsm hs h1 h2 h3 _ hc rfl _ (fun a b => hyes (by rw [b]; rfl)) fun a => hno (by rw [Bool.and_eq_true]; exact a)
  · exact specReqOf_early hi v m w hn h hh hsm hs hok
end Go.Proofs.YtiolebpoofkpmaaGreatDoor
