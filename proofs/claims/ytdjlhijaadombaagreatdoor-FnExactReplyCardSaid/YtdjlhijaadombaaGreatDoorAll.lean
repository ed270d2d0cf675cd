/- All bytes of a string meet a test: plain lists; no conditions. -/
import Derived.Test.YtdjlhijaadombaaGreatDoorBase
set_option linter.unusedVariables false
namespace Go.Proofs.YtdjlhijaadombaaGreatDoor
open Go.ChangeShapes Go.WideShapes Go.ChangeAt Go.RowKit

set_option maxRecDepth 100000 in
theorem data_get (s : ByteArray) (k : Nat) (h : k < s.size) : s.data.toList[k]'(by simpa using h) = s[k] := rfl
set_option maxRecDepth 100000 in
theorem allP_one (p : UInt8 → Bool) (s : ByteArray) (k : Nat) (h : k < s.size) (ha : (s.data.toList.take k).all p = true) (hb : p s[k] = true) : (s.data.toList.take (k + 1)).all p = true := by
  rw [take_one s k h]; simp [ha, hb]
set_option maxRecDepth 100000 in
theorem allP_end (p : UInt8 → Bool) (s : ByteArray) (k : Nat) (h : ¬ k < s.size) (ha : (s.data.toList.take k).all p = true) : s.data.toList.all p = true := by
  rwa [take_end s k h] at ha
set_option maxRecDepth 100000 in
theorem allP_no (p : UInt8 → Bool) (s : ByteArray) (k : Nat) (h : k < s.size) (ha : p s[k] = false) : s.data.toList.all p = false := by
  rw [List.all_eq_false]
  exact ⟨s[k], by rw [← data_get s k h]; exact List.getElem_mem _, by simp [ha]⟩
set_option maxRecDepth 100000 in
theorem allP_get (p : UInt8 → Bool) (s : ByteArray) (ha : s.data.toList.all p = true) (k : Nat) (h : k < s.size) : p s[k] = true := by
  rw [List.all_eq_true] at ha
  exact ha _ (by rw [← data_get s k h]; exact List.getElem_mem _)
end Go.Proofs.YtdjlhijaadombaaGreatDoor
