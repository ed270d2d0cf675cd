/- A text cut at every byte c: plain lists; no conditions. -/
import Derived.Test.YtbaefbkjobpnnaaDoorBase
import Derived.Lib.Split
import Derived.Lib.SplitLaws
set_option linter.unusedVariables false
namespace Go.Proofs.YtbaefbkjobpnnaaDoor
open Go.ChangeShapes Go.WideShapes Go.ChangeAt Go.RowKit

/-- a first part put ahead of the first piece -/
def ahead (p : List UInt8) : List (List UInt8) → List (List UInt8)
  | [] => [p]
  | h :: t => (p ++ h) :: t
/-- the pieces between the bytes c -/
def splitL (c : UInt8) : List UInt8 → List (List UInt8)
  | [] => [[]]
  | b :: l => if b = c then [] :: splitL c l else ahead [b] (splitL c l)
theorem splitL_ne (c : UInt8) : ∀ l, splitL c l ≠ []
  | [] => by simp [splitL]
  | b :: l => by
    unfold splitL
    split
    · simp
    · cases splitL c l <;> simp [ahead]
theorem ahead_nil (l : List (List UInt8)) (h : l ≠ []) : ahead [] l = l := by cases l with | nil => exact absurd rfl h | cons a b => rfl
theorem ahead_ahead (p q : List UInt8) (l : List (List UInt8)) : ahead p (ahead q l) = ahead (p ++ q) l := by cases l <;> simp [ahead]
theorem splitK_eq (c : UInt8) : ∀ l : List UInt8, Lib.splitK [c] 0 (Lib.count l [c]) l = splitL c l := by
  intro l
  induction l with
  | nil => rfl
  | cons b r ih =>
    by_cases hb : b = c
    · subst hb
      rw [Lib.count_cons_eq, Nat.add_comm]
      have hi : Lib.index (b :: r) [b] = 0 := by simp [Lib.index]
      simp only [Lib.splitK, hi, splitL, if_true]
      rw [← ih]
      simp
    · rw [Lib.count_cons_ne b c r hb]
      simp only [splitL, if_neg hb, ← ih]
      have hi : Lib.index (b :: r) [c] = if Lib.index r [c] == -1 then -1 else Lib.index r [c] + 1 := by
        have : ([c].isPrefixOf (b :: r)) = false := by simp [List.isPrefixOf, Ne.symm hb]
        rw [Lib.index, this]; rfl
      have hge := Lib.index_ge r [c]
      cases hk : Lib.count r [c] with
      | zero => rfl
      | succ k =>
        by_cases hm : Lib.index r [c] = -1
        · have := Lib.count_miss hm
          omega
        · have h1 : (Lib.index r [c] == -1) = false := beq_eq_false_iff_ne.2 hm
          rw [h1] at hi
          simp only [Bool.false_eq_true, if_false] at hi
          have h2 : (Lib.index r [c] + 1 == -1) = false := beq_eq_false_iff_ne.2 (by omega)
          simp only [Lib.splitK, h1, h2, Bool.false_eq_true, if_false, hi, ahead]
          rw [show (Lib.index r [c] + 1).toNat = (Lib.index r [c]).toNat + 1 by omega]
          simp
theorem splitB_eq (c : UInt8) (s : ByteArray) : (Lib.splitB ⟨#[c]⟩ 0 (Lib.countB s ⟨#[c]⟩) s).map (·.data.toList) = splitL c s.data.toList := by
  rw [Lib.splitB_data]
  exact splitK_eq c s.data.toList
end Go.Proofs.YtbaefbkjobpnnaaDoor
