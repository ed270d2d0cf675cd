/- What the laws FnMove need besides; no conditions. -/
import Derived.Test.YtnmijppppcgobaaGreatDoorMrg3
import Derived.Test.YtnmijppppcgobaaGreatDoorMrg4
import Derived.Test.YtnmijppppcgobaaGreatDoorMrg5
set_option linter.unusedVariables false
namespace Go.Proofs.YtnmijppppcgobaaGreatDoor
open Go.ChangeShapes Go.WideShapes Go.ChangeAt Go.RowKit

def moveOn (x y : AcctD) (id : ByteArray) (now : Int) : AcctD × AcctD × Int :=
  if findH (aH x) id < 0 then (acctNil, acctNil, 5) else if 0 ≤ findH (aH y) id then (acctNil, acctNil, 6) else if (aH y).length = 4 then (acctNil, acctNil, 10)
  else if roomOf y now < ((aH x).getD (findH (aH x) id).toNat noH).2.1 then (acctNil, acctNil, 7)
  else (setH x (dropL (aH x) id), setH y (putH (aH y) ((aH x).getD (findH (aH x) id).toNat noH)).1, 0)
def moveL (a b : AcctD) (id : ByteArray) (now : Int) : AcctD × AcctD × Int :=
  if (formB a id now && acctOk b) = false then (acctNil, acctNil, 1) else if aId a = aId b then (acctNil, acctNil, 4) else moveOn (acctSwept a now) (acctSwept b now) id now
end Go.Proofs.YtnmijppppcgobaaGreatDoor
set_option linter.unusedVariables false
namespace Go.Proofs.YtnmijppppcgobaaGreatDoor
open Go.ChangeShapes Go.WideShapes Go.ChangeAt Go.RowKit

set_option maxRecDepth 100000 in
theorem few_move (a b : AcctD) (id : ByteArray) (now : Int) : acctFew (moveL a b id now).1 ∧ acctFew (moveL a b id now).2.1 := by
  unfold moveL
  split
  · exact ⟨few_nil, few_nil⟩
  · rename_i hf
    have hf' : (formB a id now && acctOk b) = true := by simpa using hf
    simp only [Bool.and_eq_true] at hf'
    have h := few_swept (now := now) (acctOk_few (form_ok hf'.1))
    have h2 := few_swept (now := now) (acctOk_few hf'.2)
    split
    · exact ⟨few_nil, few_nil⟩
    · unfold moveOn
      split
      · exact ⟨few_nil, few_nil⟩
      · split
        · exact ⟨few_nil, few_nil⟩
        · split
          · exact ⟨few_nil, few_nil⟩
          · split
            · exact ⟨few_nil, few_nil⟩
            · exact ⟨few_setH h (few_drop h.h h.hi).1 (few_drop h.h h.hi).2, few_setH h2 few_put.1 few_put.2⟩
end Go.Proofs.YtnmijppppcgobaaGreatDoor
set_option linter.unusedVariables false
namespace Go.Proofs.YtnmijppppcgobaaGreatDoor
open Go.ChangeShapes Go.WideShapes Go.ChangeAt Go.RowKit

set_option maxRecDepth 100000 in
/-- FnMove -/
theorem move_facts {a b : AcctD} {now : Int} (h : acctOk a = true) (hb : acctOk b = true) (hne : aId a ≠ aId b) (ht : timeB now = true) {x : HoldD} (hx : x ∈ aH (acctSwept a now)) :
    ((moveL a b x.1 now).2.2 ≠ 0 → aId (moveL a b x.1 now).1 = ⟨#[]⟩ ∧ aId (moveL a b x.1 now).2.1 = ⟨#[]⟩ ∧ ¬ (findH (aH (acctSwept b now)) x.1 < 0 ∧ (aH (acctSwept b now)).length < 4 ∧ x.2.1 ≤ roomOf b now)) ∧
    ((moveL a b x.1 now).2.2 = 0 → (∃ k : Nat, findH (aH (moveL a b x.1 now).2.1) x.1 = (k : Int) ∧ (aH (moveL a b x.1 now).2.1)[k]? = some x) ∧ findH (aH (moveL a b x.1 now).1) x.1 < 0 ∧ storedL (aH (moveL a b x.1 now).1) + storedL (aH (moveL a b x.1 now).2.1) = storedL (aH (acctSwept a now)) + storedL (aH (acctSwept b now)) ∧ acctOk (moveL a b x.1 now).1 = true ∧ acctOk (moveL a b x.1 now).2.1 = true) := by
  have hso := swept_ok h ht
  have hto := swept_ok hb ht
  have htl := swept_live hb ht
  have hrm := room_swept hb ht
  obtain ⟨q1, q2, q3, q4⟩ := hold_in hso hx
  have hL : moveL a b x.1 now = moveOn (acctSwept a now) (acctSwept b now) x.1 now := by
    unfold moveL
    rw [form_eq h ht q1, hb, if_neg (by decide), if_neg hne]
  rw [hL]
  have hxl := swept_live h ht
  generalize acctSwept a now = s at hso hx hxl
  generalize acctSwept b now = t at hto htl hrm
  obtain ⟨o1, o2, o3, o4, o5, o6, o7, o8, o9⟩ := acctOk_iff.1 hso
  obtain ⟨a1, a2, a3⟩ := holdsOk_iff.1 o6
  obtain ⟨k, e1, e2⟩ := findH_mem a1 hx
  obtain ⟨r1, r2, r3, r4, r5, r6, r7, r8, r9⟩ := acctOk_iff.1 hto
  have hl4 := (holdsOk_iff.1 r6).2.2
  have e3 : ¬ ((k : Int) < 0) := by omega
  have e4 : (aH s).getD ((k : Int)).toNat noH = x := by rw [Int.toNat_natCast]; exact getD_some e2
  unfold moveOn
  rw [e1, if_neg e3, e4]
  by_cases c1 : 0 ≤ findH (aH t) x.1
  · rw [if_pos c1]
    exact ⟨fun _ => ⟨rfl, rfl, fun hc => by omega⟩, fun h => absurd h (by decide)⟩
  rw [if_neg c1]
  by_cases c2 : (aH t).length = 4
  · rw [if_pos c2]
    exact ⟨fun _ => ⟨rfl, rfl, fun hc => by omega⟩, fun h => absurd h (by decide)⟩
  rw [if_neg c2]
  by_cases c3 : roomOf t now < x.2.1
  · rw [if_pos c3]
    exact ⟨fun _ => ⟨rfl, rfl, fun hc => by rw [hrm] at c3; omega⟩, fun h => absurd h (by decide)⟩
  rw [if_neg c3]
  refine ⟨fun h => absurd rfl h, fun _ => ?_⟩
  obtain ⟨m, p1, p2, p3, p4⟩ := putH_new r6 (hold_of q1 q2 q3 q4) (show findH (aH t) x.1 < 0 by omega) (by omega)
  rw [p1]
  have hdr := sumH_drop a1 e2
  have hdo := holdsOk_sub o6 (drop_sub (aH s) x.1)
  have hra := room_all hto ht htl
  refine ⟨findH_mem (holdsOk_iff.1 p2).1 ((p4 x).2 (.inl rfl)), drop_off _ _, ?_, ?_, ?_⟩
  · show storedL (dropL (aH s) x.1) + storedL m = _
    rw [storedL_sum hdo, storedL_sum p2, storedL_sum o6, storedL_sum r6]
    omega
  · refine acctOk_iff.2 ⟨o1, o2, o3, o4, o5, hdo, o7, o8, ?_⟩
    show aPos s + sumH (dropL (aH s) x.1) ≤ aLim s
    omega
  · refine acctOk_iff.2 ⟨r1, r2, r3, r4, r5, p2, r7, r8, ?_⟩
    show aPos t + sumH m ≤ aLim t
    omega
set_option maxRecDepth 100000 in
theorem move_self {a : AcctD} {id : ByteArray} {now : Int} (h : acctOk a = true) (ht : timeB now = true) (hi : idOk id = true) : (moveL a a id now).2.2 = 4 := by
  unfold moveL
  rw [form_eq h ht hi, h, if_neg (by decide), if_pos rfl]
end Go.Proofs.YtnmijppppcgobaaGreatDoor
