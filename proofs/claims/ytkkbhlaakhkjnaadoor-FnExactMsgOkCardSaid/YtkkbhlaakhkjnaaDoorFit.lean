/- FieldFit of both; no conditions. -/
import Derived.Test.YtkkbhlaakhkjnaaDoorGetPure
import Derived.Test.YtkkbhlaakhkjnaaDoorShelf
set_option linter.unusedVariables false
namespace Go.Proofs.YtkkbhlaakhkjnaaDoor
open Go.ChangeShapes Go.WideShapes Go.ChangeAt Go.RowKit

def padL (j : Nat) (s : ByteArray) : ByteArray := ⟨(List.replicate j 48 ++ s.data.toList).toArray⟩
def padR (j : Nat) (s : ByteArray) : ByteArray := ⟨(s.data.toList ++ List.replicate j 32).toArray⟩
set_option maxRecDepth 100000 in
theorem padL_zero (s : ByteArray) : padL 0 s = s := rfl
set_option maxRecDepth 100000 in
theorem padR_zero (s : ByteArray) : padR 0 s = s := by unfold padR; simp
set_option maxRecDepth 100000 in
theorem padL_size (j : Nat) (s : ByteArray) : (padL j s).size = j + s.size := by show (List.replicate j 48 ++ s.data.toList).length = _; simp
set_option maxRecDepth 100000 in
theorem padR_size (j : Nat) (s : ByteArray) : (padR j s).size = s.size + j := by show (s.data.toList ++ List.replicate j 32).length = _; simp
set_option maxRecDepth 100000 in
theorem padL_step (j : Nat) (s : ByteArray) : (⟨#[48]⟩ : ByteArray) ++ padL j s = padL (j + 1) s := by
  unfold padL
  apply ByteArray.ext
  simp [List.replicate_succ]
set_option maxRecDepth 100000 in
theorem padR_step (j : Nat) (s : ByteArray) : padR j s ++ (⟨#[32]⟩ : ByteArray) = padR (j + 1) s := by
  unfold padR
  apply ByteArray.ext
  rw [ByteArray.data_append]
  have h32 : (⟨#[32]⟩ : ByteArray).data = [(32 : UInt8)].toArray := rfl
  rw [h32, List.append_toArray, List.replicate_succ', List.append_assoc]
/-- s filled up for a kind and a size -/
def fitS (kd : Int) (m : Nat) (s : ByteArray) : ByteArray := if kd = 1 then padL (m - s.size) s else if kd = 2 then padR (m - s.size) s else s
def sizeB : Value → Nat | .string s => s.size | _ => 0
def fitRes (no : Int) (s : ByteArray) : ByteArray := if fOk no (fitS (fKind no) (fSize no).toNat s) = true then fitS (fKind no) (fSize no).toNat s else ⟨#[]⟩
set_option maxRecDepth 100000 in
theorem fitS_size (kd : Int) (m : Nat) (s : ByteArray) (hm : m ≤ 60) (hs : s.size ≤ 1048576) : (fitS kd m s).size ≤ 1048576 := by
  unfold fitS
  split
  · rw [padL_size]; omega
  · split
    · rw [padR_size]; omega
    · exact hs
set_option maxRecDepth 100000 in
theorem rep_32 (c : Nat) : Lib.repeatL [32] c = List.replicate c 32 := by
  induction c with
  | zero => rfl
  | succ c ih => rw [List.replicate_succ, ← ih]; rfl
set_option maxRecDepth 100000 in
theorem fSize_nn (no : Int) : 0 ≤ fSize no := by
  by_cases h : fKind no = 0
  · rw [fSize_no h]; omega
  · have := fSize_pos h; omega

end Go.Proofs.YtkkbhlaakhkjnaaDoor
