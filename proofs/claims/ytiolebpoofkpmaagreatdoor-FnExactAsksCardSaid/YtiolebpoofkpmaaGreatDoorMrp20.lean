/- ReqOf of the program; the table of operations lies as Go's text lays it, errNotDigits holds an error. -/
import Derived.Test.YtiolebpoofkpmaaGreatDoorMrpReqE
set_option linter.unusedVariables false
namespace Go.Proofs.YtiolebpoofkpmaaGreatDoor
open Go.ChangeShapes Go.WideShapes Go.ChangeAt Go.RowKit

set_option maxRecDepth 100000 in
theorem implReqOf_any (hi : Nat) (v : Value) (m : MsgD) (w : World) (p : Addr) (hO : opsIn w) (hg : 1 < w.heap.size) (hce : w.cell? ⟨1, 0, none⟩ = some (.iface 207 (.pointer (some p)))) (hn : m.2.length ≤ 1048576) (h : FieldsR.rd hi w [v] m.2) (hh : hi ≤ w.heap.size) (hsm : m.1.size ≤ maxLen) (hs : ∀ x ∈ m.2, x.2.size ≤ 1048576) :
    Calls Tryz.prog 15 #[.agg #[.string m.1, v]] w fun e w' => e = .returned (qRes (reqL m)) ∧ Below w.heap.size w w' := by
  by_cases hok : msgOk m = true ∧ mtiKn m.1 = true
  · obtain ⟨h1, h2⟩ := hok
    have hc : (rawOp m < 1 ∨ 6 < rawOp m) ∨ rawOp m = 1 ∨ (rawOp m = 2 ∨ rawOp m = 3 ∨ rawOp m = 4) ∨ rawOp m = 5 ∨ rawOp m = 6 := by omega
    rcases hc with hc | hc | hc | hc | hc
    · exact implReqOf_plain hi v m w p hO hg hce hn h hh hsm hs h1 h2 hc
    · exact implReqOf_auth hi v m w p hO hg hce hn h hh hsm hs h1 h2 hc
    · exact implReqOf_amt hi v m w p hO hg hce hn h hh hsm hs h1 h2 hc
    · exact implReqOf_free hi v m w p hO hg hce hn h hh hsm hs h1 h2 hc
    · exact implReqOf_move hi v m w p hO hg hce hn h hh hsm hs h1 h2 hc
  · exact implReqOf_early hi v m w p hO hg hce hn h hh hsm hs hok
end Go.Proofs.YtiolebpoofkpmaaGreatDoor
