/- ReqOk of the program answers as the reference's; the table of operations lies as Go's text lays it. -/
import Derived.Test.YtmojpiofdfmdgabGreatDoorMrgReqK
set_option linter.unusedVariables false
namespace Go.Proofs.YtmojpiofdfmdgabGreatDoor
open Go.ChangeShapes Go.WideShapes Go.ChangeAt Go.RowKit

set_option maxRecDepth 100000 in
theorem reqOk_out {q : ReqD} (h : ¬ (1 ≤ q.op ∧ q.op ≤ 8)) : reqOk q = false := by
  have : isOp q.op = false := decide_eq_false h
  simp [reqOk, headB, this]
set_option maxRecDepth 100000 in
theorem reqOk_split (q : ReqD) (b : Bool) (h : (b = true) ↔ (reqOk q = true)) : b = reqOk q := by
  cases b <;> cases hq : reqOk q <;> simp_all
set_option maxRecDepth 100000 in
theorem reqOk_iff (q : ReqD) : reqOk q = true ↔ (isOp q.op = true ∧ q.mti = opTxt 0 q.op ∧ acctIdB q.acct = true ∧ trB q.trace = true) ∧ restB q = true := by
  simp [reqOk, headB, Bool.and_eq_true, decide_eq_true_eq]
set_option maxRecDepth 100000 in
theorem implReqOk_any (q : ReqD) (w : World) (hO : opsIn w) (hq : qBig q) : Calls Tryz.prog 37 #[qV q] w fun e w' => e = .returned (.bool (reqOk q)) ∧ Below w.heap.size w w' := by
  obtain ⟨z1, z2, z3, z4, z5⟩ := hq
  obtain ⟨op, acct, other, hold, trace, mti, amount, ttl⟩ := q
  simp only at z1 z2 z3 z4 z5
  have hc : (op < 1 ∨ 6 < op) ∨ op = 1 ∨ (op = 2 ∨ op = 3 ∨ op = 4) ∨ op = 5 ∨ op = 6 := by omega
  rcases hc with hc | rfl | hc | rfl | rfl
  · refine (implReqOk_plain op hc acct other hold trace mti _ amount ttl w hO z1 z2 z3 z4 rfl).mono fun e w' ⟨he, hb⟩ => ⟨he.trans (congrArg (fun b => Ending.returned (.bool b)) (reqOk_split _ _ ?_)), hb⟩
    rw [reqOk_iff]
    have e1 : holdU op = false := by simp [holdU, isOp]; omega
    have e2 : amtU op = false := by simp [amtU]; omega
    have e3 : decide (op = 1) = false := decide_eq_false (by omega)
    have e4 : decide (op = 6) = false := decide_eq_false (by omega)
    simp only [restB, e1, e2, e3, e4, holdP, amtP, ttlP, othP, plainB, Bool.and_eq_true, decide_eq_true_eq, if_false, Bool.false_eq_true]
    constructor
    · rintro ⟨⟨h1, h2, h3⟩, -, -, h4, h5, -, h6, h7, h8⟩; exact ⟨⟨h1, h6.symm, h2, h3⟩, h5.symm, h7.symm, h8.symm, h4.symm⟩
    · rintro ⟨⟨h1, h6, h2, h3⟩, h5, h7, h8, h4⟩; exact ⟨⟨h1, h2, h3⟩, trivial, trivial, h4.symm, h5.symm, trivial, h6.symm, h7.symm, h8.symm⟩
  · refine (implReqOk_auth acct other hold trace mti _ amount ttl w hO z1 z2 z3 z4 rfl).mono fun e w' ⟨he, hb⟩ => ⟨he.trans (congrArg (fun b => Ending.returned (.bool b)) (reqOk_split _ _ ?_)), hb⟩
    rw [reqOk_iff]
    simp only [restB, show holdU 1 = true by decide, show amtU 1 = true by decide, holdP, amtP, ttlP, othP, plainB, Bool.and_eq_true, decide_eq_true_eq, if_true, show decide ((1 : Int) = 6) = false by decide, if_false, Bool.false_eq_true]
    constructor
    · rintro ⟨⟨⟨⟨⟨h1, h2, h3⟩, h4⟩, h5⟩, h6⟩, -, -, h7, -, -, h8, -, -⟩; exact ⟨⟨h1, h8.symm, h2, h3⟩, h4, h5, h6, h7.symm⟩
    · rintro ⟨⟨h1, h8, h2, h3⟩, h4, h5, h6, h7⟩; exact ⟨⟨⟨⟨⟨h1, h2, h3⟩, h4⟩, h5⟩, h6⟩, trivial, trivial, h7.symm, trivial, trivial, h8.symm, trivial, trivial⟩
  · refine (implReqOk_amt op hc acct other hold trace mti _ amount ttl w hO z1 z2 z3 z4 rfl).mono fun e w' ⟨he, hb⟩ => ⟨he.trans (congrArg (fun b => Ending.returned (.bool b)) (reqOk_split _ _ ?_)), hb⟩
    rw [reqOk_iff]
    have e1 : holdU op = true := by simp [holdU, isOp]; omega
    have e2 : amtU op = true := by simp [amtU]; omega
    have e3 : decide (op = 1) = false := decide_eq_false (by omega)
    have e4 : decide (op = 6) = false := decide_eq_false (by omega)
    simp only [restB, e1, e2, e3, e4, holdP, amtP, ttlP, othP, plainB, Bool.and_eq_true, decide_eq_true_eq, if_true, if_false, Bool.false_eq_true]
    constructor
    · rintro ⟨⟨⟨⟨h1, h2, h3⟩, h4⟩, h5⟩, -, -, h7, -, -, h8, -, h9⟩; exact ⟨⟨h1, h8.symm, h2, h3⟩, h4, h5, h9.symm, h7.symm⟩
    · rintro ⟨⟨h1, h8, h2, h3⟩, h4, h5, h9, h7⟩; exact ⟨⟨⟨⟨h1, h2, h3⟩, h4⟩, h5⟩, trivial, trivial, h7.symm, trivial, trivial, h8.symm, trivial, h9.symm⟩
  · refine (implReqOk_free acct other hold trace mti _ amount ttl w hO z1 z2 z3 z4 rfl).mono fun e w' ⟨he, hb⟩ => ⟨he.trans (congrArg (fun b => Ending.returned (.bool b)) (reqOk_split _ _ ?_)), hb⟩
    rw [reqOk_iff]
    simp only [restB, show holdU 5 = true by decide, show amtU 5 = false by decide, holdP, amtP, ttlP, othP, plainB, Bool.and_eq_true, decide_eq_true_eq, if_true, show decide ((5 : Int) = 1) = false by decide, show decide ((5 : Int) = 6) = false by decide, if_false, Bool.false_eq_true]
    constructor
    · rintro ⟨⟨⟨h1, h2, h3⟩, h4⟩, -, -, h7, -, -, h8, h5, h9⟩; exact ⟨⟨h1, h8.symm, h2, h3⟩, h4, h5.symm, h9.symm, h7.symm⟩
    · rintro ⟨⟨h1, h8, h2, h3⟩, h4, h5, h9, h7⟩; exact ⟨⟨⟨h1, h2, h3⟩, h4⟩, trivial, trivial, h7.symm, trivial, trivial, h8.symm, h5.symm, h9.symm⟩
  · refine (implReqOk_move acct other hold trace mti _ amount ttl w hO z1 z2 z3 z4 rfl).mono fun e w' ⟨he, hb⟩ => ⟨he.trans (congrArg (fun b => Ending.returned (.bool b)) (reqOk_split _ _ ?_)), hb⟩
    rw [reqOk_iff]
    simp only [restB, show holdU 6 = true by decide, show amtU 6 = false by decide, holdP, amtP, ttlP, othP, plainB, Bool.and_eq_true, decide_eq_true_eq, if_true, show decide ((6 : Int) = 1) = false by decide, if_false, Bool.false_eq_true]
    constructor
    · rintro ⟨⟨⟨⟨h1, h2, h3⟩, h4⟩, h7⟩, -, -, -, -, -, h8, h5, h9⟩; exact ⟨⟨h1, h8.symm, h2, h3⟩, h4, h5.symm, h9.symm, h7⟩
    · rintro ⟨⟨h1, h8, h2, h3⟩, h4, h5, h9, h7⟩; exact ⟨⟨⟨⟨h1, h2, h3⟩, h4⟩, h7⟩, trivial, trivial, trivial, trivial, trivial, h8.symm, h5.symm, h9.symm⟩
end Go.Proofs.YtmojpiofdfmdgabGreatDoor
