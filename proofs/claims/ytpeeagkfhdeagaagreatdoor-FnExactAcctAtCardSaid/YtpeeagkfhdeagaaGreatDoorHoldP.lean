/- What chapter 8 asks of holds, as plain functions; no conditions. -/
import Derived.Test.YtpeeagkfhdeagaaGreatDoorHold
import Derived.Test.YtpeeagkfhdeagaaGreatDoorRingS
import Derived.Test.YtpeeagkfhdeagaaGreatDoorSatV
set_option linter.unusedVariables false
namespace Go.Proofs.YtpeeagkfhdeagaaGreatDoor
open Go.ChangeShapes Go.WideShapes Go.ChangeAt Go.RowKit

/-- a digit or a small letter -/
def idCh (c : UInt8) : Bool := decide (48 ≤ c.toNat ∧ c.toNat ≤ 57 ∨ 97 ≤ c.toNat ∧ c.toNat ≤ 122)
def idOk (s : ByteArray) : Bool := s.data.toList.all idCh && inB (s.size : Int) 1 6
def holdOk (x : HoldD) : Bool := idOk x.1 && (inB x.2.1 1 9007199254740992 && timeB x.2.2)
/-- the string a comes before b -/
def strLt (a b : ByteArray) : Bool := Op.bytesLess a.toList b.toList
/-- element i is right, and after the one before it -/
def holdAtOk (l : List HoldD) (i : Nat) : Bool := holdOk (l.getD i noH) && (decide (i = 0) || strLt (l.getD (i - 1) noH).1 (l.getD i noH).1)
def holdsOk (l : List HoldD) : Bool := (List.range l.length).all (holdAtOk l) && decide (l.length ≤ 4)
def live (now : Int) (x : HoldD) : Bool := decide (now < x.2.2)
def liveL (l : List HoldD) (now : Int) : List HoldD := l.filter (live now)
def storedL (l : List HoldD) : Int := l.foldl (fun n x => satVal n x.2.1) 0
def dropL (l : List HoldD) (id : ByteArray) : List HoldD := l.filter fun x => decide (x.1 ≠ id)
/-- the first with this id -/
def findH (l : List HoldD) (id : ByteArray) : Int := match l.findIdx? (fun x => decide (x.1 = id)) with | some i => (i : Int) | none => -1
/-- in order, in the place of the one with its id -/
def insOne (h : HoldD) (s : List HoldD × Bool) (x : HoldD) : List HoldD × Bool :=
  ((if (!s.2 && !strLt x.1 h.1) = true then s.1 ++ [h] else s.1) ++ (if x.1 = h.1 then [] else [x]), s.2 || !strLt x.1 h.1)
def insL (l : List HoldD) (h : HoldD) : List HoldD := let s := l.foldl (insOne h) ([], false); if s.2 = true then s.1 else s.1 ++ [h]
def putH (l : List HoldD) (h : HoldD) : List HoldD × Bool := if (holdsOk l && holdsOk (insL l h)) = true then (insL l h, true) else ([], false)

set_option maxRecDepth 100000 in
theorem all_step {s : ByteArray} {k : Nat} {p : UInt8 → Bool} (hlt : k < s.size) (h : (s.data.toList.take k).all p = true) (hp : p s[k] = true) : (s.data.toList.take (k + 1)).all p = true := by
  have hl : k < s.data.toList.length := by simpa using hlt
  have hp' : p s.data.toList[k] = true := hp
  rw [List.take_succ_eq_append_getElem hl, List.all_append, h]
  simpa using hp'
set_option maxRecDepth 100000 in
theorem all_not {s : ByteArray} {k : Nat} {p : UInt8 → Bool} (hlt : k < s.size) (hp : p s[k] = false) : s.data.toList.all p = false := by
  rw [List.all_eq_false]
  have hl : k < s.data.toList.length := by simpa using hlt
  exact ⟨s.data.toList[k], List.getElem_mem hl, by rw [Bool.not_eq_true]; exact hp⟩
set_option maxRecDepth 100000 in
theorem all_whole {s : ByteArray} {p : UInt8 → Bool} (h : (s.data.toList.take s.size).all p = true) : s.data.toList.all p = true := by
  have e : s.size = s.data.toList.length := by simp
  rw [e, List.take_length] at h
  exact h
set_option maxRecDepth 100000 in
theorem idOk_not {s : ByteArray} (h : s.data.toList.all idCh = false) : idOk s = false := by unfold idOk; rw [h]; rfl
set_option maxRecDepth 100000 in
theorem idOk_yes {s : ByteArray} (h : s.data.toList.all idCh = true) : idOk s = inB (s.size : Int) 1 6 := by unfold idOk; rw [h]; rfl
end Go.Proofs.YtpeeagkfhdeagaaGreatDoor
