/- eqReq of equal requests; no conditions. -/
import Derived.Test.YtmojpiofdfmdgabGreatDoorMrgReqD
set_option linter.unusedVariables false
namespace Go.Proofs.YtmojpiofdfmdgabGreatDoor
open Go.ChangeShapes Go.WideShapes Go.ChangeAt Go.RowKit
set_option maxRecDepth 100000 in
set_option maxHeartbeats 8000000 in
theorem eqReq_any (op : Int) (acct other hold trace mti : ByteArray) (amount ttl : Int) (w : World) :
    Calls Tryz.prog 9 #[.agg #[.int .i64 op, .string acct, .string other, .string hold, .string trace, .string mti, .int .i64 amount, .int .i64 ttl], .agg #[.int .i64 op, .string acct, .string other, .string hold, .string trace, .string mti, .int .i64 amount, .int .i64 ttl]] w fun e w' => e = .returned (.bool true) ∧ Below w.heap.size w w' := by
  have HB : Hid (∀ o1 o2, Below w.heap.size w ((w.alloc o1).alloc o2)) := Lib.hid fun o1 o2 => (((Below.refl _ _).alloc (Nat.le_refl _) o1).alloc (by simp) o2)
  go_enter Tryz.func9, Tryz.ntmps9
  go_wp2
  go_ret
  exact ⟨rfl, HB.out _ _⟩
end Go.Proofs.YtmojpiofdfmdgabGreatDoor
