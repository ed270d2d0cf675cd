/- ReqOk of the reference; no conditions. -/
import Derived.Test.YtmojpiofdfmdgabGreatDoorMrgReqT
set_option linter.unusedVariables false
namespace Go.Proofs.YtmojpiofdfmdgabGreatDoor
open Go.ChangeShapes Go.WideShapes Go.ChangeAt Go.RowKit

def trB (s : ByteArray) : Bool := digs s && decide (s.size = 6)
def headB (q : ReqD) : Bool := isOp q.op && (decide (q.mti = opTxt 0 q.op) && (acctIdB q.acct && trB q.trace))
def holdP (u : Bool) (s : ByteArray) : Bool := if u = true then idOk s else decide (s = ⟨#[]⟩)
def amtP (u : Bool) (n : Int) : Bool := if u = true then decide (0 ≤ n ∧ n ≤ 999999999999) else decide (n = 0)
def ttlP (u : Bool) (n : Int) : Bool := if u = true then decide (0 ≤ n ∧ n ≤ 9999) else decide (n = 0)
def othP (u : Bool) (s : ByteArray) : Bool := if u = true then acctIdB s else decide (s = ⟨#[]⟩)
def restB (q : ReqD) : Bool := holdP (holdU q.op) q.hold && (amtP (amtU q.op) q.amount && (ttlP (decide (q.op = 1)) q.ttl && othP (decide (q.op = 6)) q.other))
def reqOk (q : ReqD) : Bool := headB q && restB q
set_option maxRecDepth 100000 in
theorem headB_iff {q : ReqD} : headB q = true ↔ isOp q.op = true ∧ q.mti = opTxt 0 q.op ∧ acctIdB q.acct = true ∧ digs q.trace = true ∧ q.trace.size = 6 := by
  simp [headB, trB, Bool.and_eq_true, decide_eq_true_eq]
set_option maxRecDepth 100000 in
theorem specReqOk_any (q : ReqD) (w : World) (hq : qBig q) : Calls Tryz.prog 26 #[qV q] w fun e w' => e = .returned (.bool (reqOk q)) ∧ Below w.heap.size w w' := by
  obtain ⟨z1, z2, z3, z4, z5⟩ := hq
  cases hh : headB q
  · rw [show reqOk q = false by simp [reqOk, hh]]
    refine specReqOk_early q.op q.acct q.other q.hold q.trace q.mti _ q.amount q.ttl w z1 z2 z3 z4 rfl fun h => ?_
    rw [headB_iff.2 h] at hh
    cases hh
  · obtain ⟨h1, h2, h3, h4, h5⟩ := headB_iff.1 hh
    rw [show reqOk q = restB q by simp [reqOk, hh]]
    have h8 : 1 ≤ q.op ∧ q.op ≤ 8 := of_decide_eq_true h1
    have hc : q.op = 1 ∨ (q.op = 2 ∨ q.op = 3 ∨ q.op = 4) ∨ q.op = 5 ∨ q.op = 6 ∨ (q.op = 7 ∨ q.op = 8) := by omega
    obtain ⟨op, acct, other, hold, trace, mti, amount, ttl⟩ := q
    simp only at h1 h2 h3 h4 h5 hc z1 z2 z3 z4
    rcases hc with rfl | hc | rfl | rfl | hc
    · exact specReqOk_auth 1 acct other hold trace mti _ amount ttl w z1 z2 z3 z4 rfl rfl h2 h3 h4 h5
    · have k1 : isOp op = true := h1
      have e1 : holdU op = true := by rw [holdU, k1]; simp; omega
      have e2 : amtU op = true := by simp [amtU]; omega
      have e3 : decide (op = 1) = false := decide_eq_false (by omega)
      have e4 : decide (op = 6) = false := decide_eq_false (by omega)
      rw [show restB ⟨op, acct, other, hold, trace, mti, amount, ttl⟩ = (holdP (holdU op) hold && (amtP (amtU op) amount && (ttlP (decide (op = 1)) ttl && othP (decide (op = 6)) other))) from rfl, e1, e2, e3, e4]
      exact specReqOk_amt op acct other hold trace mti _ amount ttl w z1 z2 z3 z4 hc rfl h2 h3 h4 h5
    · exact specReqOk_free 5 acct other hold trace mti _ amount ttl w z1 z2 z3 z4 rfl rfl h2 h3 h4 h5
    · exact specReqOk_move 6 acct other hold trace mti _ amount ttl w z1 z2 z3 z4 rfl rfl h2 h3 h4 h5
    · have k1 : isOp op = true := h1
      have e1 : holdU op = false := by rw [holdU, k1]; simp; omega
      have e2 : amtU op = false := by simp [amtU]; omega
      have e3 : decide (op = 1) = false := decide_eq_false (by omega)
      have e4 : decide (op = 6) = false := decide_eq_false (by omega)
      rw [show restB ⟨op, acct, other, hold, trace, mti, amount, ttl⟩ = (holdP (holdU op) hold && (amtP (amtU op) amount && (ttlP (decide (op = 1)) ttl && othP (decide (op = 6)) other))) from rfl, e1, e2, e3, e4]
      exact specReqOk_plain op acct other hold trace mti _ amount ttl w z1 z2 z3 z4 hc rfl h2 h3 h4 h5
end Go.Proofs.YtmojpiofdfmdgabGreatDoor
