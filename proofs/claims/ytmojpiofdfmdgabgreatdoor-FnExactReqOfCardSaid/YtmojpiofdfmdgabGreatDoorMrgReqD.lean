/- Requests: their layout, what the law package's helpers do with them, which fields an operation uses; no conditions. -/
import Derived.Test.YtmojpiofdfmdgabGreatDoorMrg2
set_option linter.unusedVariables false
namespace Go.Proofs.YtmojpiofdfmdgabGreatDoor
open Go.ChangeShapes Go.WideShapes Go.ChangeAt Go.RowKit

structure ReqD where
  op : Int
  acct : ByteArray
  other : ByteArray
  hold : ByteArray
  trace : ByteArray
  mti : ByteArray
  amount : Int
  ttl : Int
deriving DecidableEq
def qCells (q : ReqD) : List Value := [.int .i64 q.op, .string q.acct, .string q.other, .string q.hold, .string q.trace, .string q.mti, .int .i64 q.amount, .int .i64 q.ttl]
def qV (q : ReqD) : Value := .agg (qCells q).toArray
def noQ : ReqD := ⟨0, ⟨#[]⟩, ⟨#[]⟩, ⟨#[]⟩, ⟨#[]⟩, ⟨#[]⟩, 0, 0⟩
/-- no text is longer than n, the numbers are 64 bits wide -/
structure qBig (q : ReqD) : Prop where
  acct : q.acct.size ≤ maxLen
  other : q.other.size ≤ maxLen
  hold : q.hold.size ≤ maxLen
  trace : q.trace.size ≤ maxLen
  mti : q.mti.size ≤ maxLen
structure qWf (q : ReqD) : Prop where
  op : (Lit.int .i64 q.op).wf = true
  amount : (Lit.int .i64 q.amount).wf = true
  ttl : (Lit.int .i64 q.ttl).wf = true
set_option maxRecDepth 100000 in
theorem bk.eight {w : World} {g : Nat} {t : TypeId} {a b c d e f i j : Value} (h : bk w g t [a, b, c, d, e, f, i, j]) :
    (w.cell? ⟨g, 0, none⟩ = some a ∧ w.cell? ⟨g, 1, none⟩ = some b ∧ w.cell? ⟨g, 2, none⟩ = some c ∧ w.cell? ⟨g, 3, none⟩ = some d ∧ w.cell? ⟨g, 4, none⟩ = some e ∧ w.cell? ⟨g, 5, none⟩ = some f ∧ w.cell? ⟨g, 6, none⟩ = some i ∧ w.cell? ⟨g, 7, none⟩ = some j) ∧ (∀ k, w.frozen? ⟨g, k, none⟩ = false) :=
  ⟨⟨h.cell 0, h.cell 1, h.cell 2, h.cell 3, h.cell 4, h.cell 5, h.cell 6, h.cell 7⟩, fun k => h.frozen k⟩
/-- which fields an operation uses -/
def holdU (op : Int) : Bool := isOp op && decide (op < 7)
def amtU (op : Int) : Bool := decide (1 ≤ op ∧ op ≤ 4)
set_option maxRecDepth 100000 in
theorem l11Hold_any (op : Int) (w : World) : Calls Tryz.prog 22 #[.int .i64 op] w fun e w' => e = .returned (.bool (holdU op)) ∧ w = w' := by
  have HI := Lib.hid (l11Op_any op)
  have HH : Hid (holdU op = (isOp op && decide (op < 7))) := Lib.hid rfl
  generalize holdU op = r at HH
  generalize isOp op = b at HI HH
  rw [HH.out]
  cases b
  all_goals go_enter Tryz.func22, Tryz.ntmps22
  all_goals go_wp2_with fail
  all_goals refine (HI.out _).mono ?_
  all_goals rintro e w1 ⟨rfl, rfl⟩
  all_goals go_wp2
  all_goals go_ret
  all_goals exact ⟨by first | rfl | (refine congrArg (fun b => Ending.returned (.bool b)) ?_; simp), rfl⟩
set_option maxRecDepth 100000 in
theorem l11Amount_any (op : Int) (w : World) : Calls Tryz.prog 24 #[.int .i64 op] w fun e w' => e = .returned (.bool (amtU op)) ∧ w = w' := by
  have HI := Lib.hid (specIn_any op 1 4)
  go_enter Tryz.func24, Tryz.ntmps24
  go_wp2_with fail
  refine (HI.out _).mono ?_
  rintro e w1 ⟨rfl, rfl⟩
  go_wp2
  go_ret
  exact ⟨congrArg (fun b => Ending.returned (.bool b)) (by simp [amtU]), rfl⟩

set_option maxRecDepth 100000 in
set_option maxHeartbeats 1600000 in
theorem toReq_any (q : ReqD) (w : World) : Calls Tryz.prog 13 #[qV q] w fun e w' => e = .returned (qV q) ∧ Below w.heap.size w w' := by
  change Calls _ _ #[.agg #[.int .i64 q.op, .string q.acct, .string q.other, .string q.hold, .string q.trace, .string q.mti, .int .i64 q.amount, .int .i64 q.ttl]] _ fun e w' => e = .returned (.agg #[.int .i64 q.op, .string q.acct, .string q.other, .string q.hold, .string q.trace, .string q.mti, .int .i64 q.amount, .int .i64 q.ttl]) ∧ _
  obtain ⟨op, acct, other, hold, trace, mti, amount, ttl⟩ := q
  go_enter Tryz.func13, Tryz.ntmps13
  go_wp2
  exact bodyPost_ret (v := .agg #[.int .i64 op, .string acct, .string other, .string hold, .string trace, .string mti, .int .i64 amount, .int .i64 ttl]) (by simp [results, Tryz.results13, go_sem]) rfl ⟨rfl, (((Below.refl _ _).alloc (Nat.le_refl _) _).alloc (by simp) _).alloc (by simp; omega) _⟩
set_option maxRecDepth 100000 in
set_option maxHeartbeats 1600000 in
theorem szReq_any (q : ReqD) (left : Int) (w : World) (hq : qBig q) (h0 : 0 ≤ left) (h1 : left ≤ 1048576) :
    Calls Tryz.prog 11 #[qV q, .int .i64 left] w (szRes left (q.acct.size + q.other.size + q.hold.size + q.trace.size + q.mti.size) w) := by
  change Calls _ _ #[.agg #[.int .i64 q.op, .string q.acct, .string q.other, .string q.hold, .string q.trace, .string q.mti, .int .i64 q.amount, .int .i64 q.ttl], _] _ _
  obtain ⟨z1, z2, z3, z4, z5⟩ := hq
  obtain ⟨op, acct, other, hold, trace, mti, amount, ttl⟩ := q
  simp only at z1 z2 z3 z4 z5
  unfold maxLen at z1 z2 z3 z4 z5
  have HB0 : Hid (Below w.heap.size w (w.alloc (.cells #[.int .i64 op, .string acct, .string other, .string hold, .string trace, .string mti, .int .i64 amount, .int .i64 ttl] 37))) := Lib.hid ((Below.refl _ _).alloc (Nat.le_refl _) _)
  by_cases b0 : left - (acct.size : Int) < 0
  · go_enter Tryz.func11, Tryz.ntmps11
    go_wp2
    go_ret
    exact ⟨_, rfl, .inl rfl, HB0.out⟩
  by_cases b1 : left - (acct.size : Int) - (other.size : Int) < 0
  · go_enter Tryz.func11, Tryz.ntmps11
    go_wp2
    go_ret
    exact ⟨_, rfl, .inl rfl, HB0.out⟩
  by_cases b2 : left - (acct.size : Int) - (other.size : Int) - (hold.size : Int) < 0
  · go_enter Tryz.func11, Tryz.ntmps11
    go_wp2
    go_ret
    exact ⟨_, rfl, .inl rfl, HB0.out⟩
  by_cases b3 : left - (acct.size : Int) - (other.size : Int) - (hold.size : Int) - (trace.size : Int) < 0
  · go_enter Tryz.func11, Tryz.ntmps11
    go_wp2
    go_ret
    exact ⟨_, rfl, .inl rfl, HB0.out⟩
  by_cases b4 : left - (acct.size : Int) - (other.size : Int) - (hold.size : Int) - (trace.size : Int) - (mti.size : Int) < 0
  · go_enter Tryz.func11, Tryz.ntmps11
    go_wp2
    go_ret
    exact ⟨_, rfl, .inl rfl, HB0.out⟩
  go_enter Tryz.func11, Tryz.ntmps11
  go_wp2
  go_ret
  exact ⟨_, rfl, .inr ⟨by omega, by omega⟩, HB0.out⟩

end Go.Proofs.YtmojpiofdfmdgabGreatDoor
