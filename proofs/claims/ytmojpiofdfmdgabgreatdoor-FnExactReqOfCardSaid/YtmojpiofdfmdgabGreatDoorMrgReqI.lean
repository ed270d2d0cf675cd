/- requestOf of the program, by the operation's class; no conditions. -/
import Derived.Test.YtmojpiofdfmdgabGreatDoorMrgReqD
set_option linter.unusedVariables false
namespace Go.Proofs.YtmojpiofdfmdgabGreatDoor
open Go.ChangeShapes Go.WideShapes Go.ChangeAt Go.RowKit

set_option maxRecDepth 100000 in
set_option maxHeartbeats 8000000 in
theorem requestOf_plain (op : Int) (hop : op < 1 ∨ 6 < op) (acct other hold trace mti : ByteArray) (amount ttl : Int) (w : World) :
    Calls Tryz.prog 39 #[.agg #[.int .i64 op, .string acct, .string other, .string hold, .string trace, .string mti, .int .i64 amount, .int .i64 ttl]] w fun e w' => e = .returned (.iface 81 (.agg #[.int .i64 op, .string acct, .string trace])) ∧ Below w.heap.size w w' := by
  have n1 : (op == 1) = false := by simp; omega
  have n2 : (op == 2) = false := by simp; omega
  have n3 : (op == 3) = false := by simp; omega
  have n4 : (op == 4) = false := by simp; omega
  have n5 : (op == 5) = false := by simp; omega
  have n6 : (op == 6) = false := by simp; omega
  clear hop
  have HB : Hid (∀ o1 o2 o3 o4, Below w.heap.size w ((((w.alloc o1).alloc o2).alloc o3).alloc o4)) := Lib.hid fun o1 o2 o3 o4 => (((((Below.refl _ _).alloc (Nat.le_refl _) o1).alloc (by simp) o2).alloc (by simp; omega) o3).alloc (by simp; omega) o4)
  go_enter Tryz.func39, Tryz.ntmps39
  go_wp2
  go_ret
  exact ⟨rfl, HB.out _ _ _ _⟩
set_option maxRecDepth 100000 in
set_option maxHeartbeats 8000000 in
theorem requestOf_free (acct other hold trace mti : ByteArray) (amount ttl : Int) (w : World) :
    Calls Tryz.prog 39 #[.agg #[.int .i64 5, .string acct, .string other, .string hold, .string trace, .string mti, .int .i64 amount, .int .i64 ttl]] w fun e w' => e = .returned (.iface 83 (.agg #[.int .i64 5, .string acct, .string trace, .string hold])) ∧ Below w.heap.size w w' := by
  have HB : Hid (∀ o1 o2 o3 o4, Below w.heap.size w ((((w.alloc o1).alloc o2).alloc o3).alloc o4)) := Lib.hid fun o1 o2 o3 o4 => (((((Below.refl _ _).alloc (Nat.le_refl _) o1).alloc (by simp) o2).alloc (by simp; omega) o3).alloc (by simp; omega) o4)
  go_enter Tryz.func39, Tryz.ntmps39
  go_wp2
  go_ret
  exact ⟨rfl, HB.out _ _ _ _⟩
set_option maxRecDepth 100000 in
set_option maxHeartbeats 8000000 in
theorem requestOf_amt (op : Int) (hop : op = 2 ∨ op = 3 ∨ op = 4) (acct other hold trace mti : ByteArray) (amount ttl : Int) (w : World) :
    Calls Tryz.prog 39 #[.agg #[.int .i64 op, .string acct, .string other, .string hold, .string trace, .string mti, .int .i64 amount, .int .i64 ttl]] w fun e w' => e = .returned (.iface 85 (.agg #[.int .i64 op, .string acct, .string trace, .string hold, .int .i64 amount])) ∧ Below w.heap.size w w' := by
  rcases hop with rfl | rfl | rfl
  all_goals have HB : Hid (∀ o1 o2 o3 o4, Below w.heap.size w ((((w.alloc o1).alloc o2).alloc o3).alloc o4)) := Lib.hid fun o1 o2 o3 o4 => (((((Below.refl _ _).alloc (Nat.le_refl _) o1).alloc (by simp) o2).alloc (by simp; omega) o3).alloc (by simp; omega) o4)
  all_goals go_enter Tryz.func39, Tryz.ntmps39
  all_goals go_wp2
  all_goals go_ret
  all_goals exact ⟨rfl, HB.out _ _ _ _⟩
set_option maxRecDepth 100000 in
set_option maxHeartbeats 8000000 in
theorem requestOf_auth (acct other hold trace mti : ByteArray) (amount ttl : Int) (w : World) :
    Calls Tryz.prog 39 #[.agg #[.int .i64 1, .string acct, .string other, .string hold, .string trace, .string mti, .int .i64 amount, .int .i64 ttl]] w fun e w' => e = .returned (.iface 87 (.agg #[.int .i64 1, .string acct, .string trace, .string hold, .int .i64 amount, .int .i64 ttl])) ∧ Below w.heap.size w w' := by
  have HB : Hid (∀ o1 o2 o3 o4, Below w.heap.size w ((((w.alloc o1).alloc o2).alloc o3).alloc o4)) := Lib.hid fun o1 o2 o3 o4 => (((((Below.refl _ _).alloc (Nat.le_refl _) o1).alloc (by simp) o2).alloc (by simp; omega) o3).alloc (by simp; omega) o4)
  go_enter Tryz.func39, Tryz.ntmps39
  go_wp2
  go_ret
  exact ⟨rfl, HB.out _ _ _ _⟩
set_option maxRecDepth 100000 in
set_option maxHeartbeats 8000000 in
theorem requestOf_move (acct other hold trace mti : ByteArray) (amount ttl : Int) (w : World) :
    Calls Tryz.prog 39 #[.agg #[.int .i64 6, .string acct, .string other, .string hold, .string trace, .string mti, .int .i64 amount, .int .i64 ttl]] w fun e w' => e = .returned (.iface 89 (.agg #[.int .i64 6, .string acct, .string trace, .string hold, .string other])) ∧ Below w.heap.size w w' := by
  have HB : Hid (∀ o1 o2 o3 o4, Below w.heap.size w ((((w.alloc o1).alloc o2).alloc o3).alloc o4)) := Lib.hid fun o1 o2 o3 o4 => (((((Below.refl _ _).alloc (Nat.le_refl _) o1).alloc (by simp) o2).alloc (by simp; omega) o3).alloc (by simp; omega) o4)
  go_enter Tryz.func39, Tryz.ntmps39
  go_wp2
  go_ret
  exact ⟨rfl, HB.out _ _ _ _⟩
end Go.Proofs.YtmojpiofdfmdgabGreatDoor
