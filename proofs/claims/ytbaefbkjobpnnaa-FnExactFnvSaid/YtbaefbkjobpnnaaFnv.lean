/- The two hash functions return the same number; no conditions. -/
import Derived.Test.YtbaefbkjobpnnaaRows
import Derived.WalkKit
import Derived.ProofKit
import Derived.OpenShut
import Derived.Outline
import Derived.WalkLawsBesides
import Derived.Handy
import Derived.Lib.Hide
namespace Go.Proofs.Ytbaefbkjobpnnaa
open Go.ChangeShapes Go.WideShapes Go.ChangeAt Go.RowKit

def fnvStep (h : Int) (c : UInt8) : Int := bits BinOp.and IntKind.i64 (wrap64 (bits BinOp.xor IntKind.i64 h (wrap64 (c.toNat : Int)) * 16777619)) 4294967295
def fnvOf (l : List UInt8) : Int := l.foldl fnvStep 2166136261

theorem fnv_take (s : ByteArray) (k : Nat) (h : k < s.size) : s.data.toList.take (k + 1) = s.data.toList.take k ++ [s[k]] := by
  rw [List.take_succ_eq_append_getElem (by simpa using h)]; rfl
theorem fnv_snoc (s : ByteArray) (k : Nat) (h : k < s.size) : fnvOf (s.data.toList.take (k + 1)) = fnvStep (fnvOf (s.data.toList.take k)) s[k] := by
  rw [fnv_take s k h]; simp [fnvOf, List.foldl_append]
theorem fnv_end (s : ByteArray) (k : Nat) (h : k ≤ s.size) (h' : ¬ k < s.size) : fnvOf (s.data.toList.take k) = fnvOf s.data.toList := by
  rw [List.take_of_length_le (by simp; omega)]
theorem fnv_int {k : IntKind} {a b : Int} (h : a = b) : Value.int k a = Value.int k b := by rw [h]
theorem fnv_ret {k : IntKind} {a b : Int} (h : a = b) : Ending.returned (.int k a) = .returned (.int k b) := by rw [h]

theorem specFnv_any (s : ByteArray) (w : World) (hs : s.size ≤ maxLen) :
    Calls Try.prog 17 #[.string s] w fun e w' => e = .returned (.int .i64 (fnvOf s.data.toList)) ∧ w = w' := by
  unfold maxLen at hs
  go_enter Try.func17, Try.ntmps17
  go_wp2
  go_loop [3, 4] (fun h i => ∃ k : Nat, k ≤ s.size ∧ i = .int .i64 k ∧ h = .int .i64 (fnvOf (s.data.toList.take k))) (fun _ i => s.size - (intOf i).toNat)
  case atStart => exact ⟨0, Nat.zero_le _, rfl, rfl⟩
  case round =>
    obtain ⟨k, hk, rfl, rfl⟩ := hrel
    by_cases hlt : k < s.size
    · have hs1 := Lib.hid (fnv_snoc s k hlt)
      generalize fnvOf (s.data.toList.take k) = h at hs1 ⊢
      go_wp2
      go_round
      case rel => exact ⟨k + 1, by omega, by go_num, fnv_int hs1.out.symm⟩
      case measure => simp [intOf]; omega
    · have hs1 := Lib.hid (fnv_end s k hk hlt)
      generalize fnvOf (s.data.toList.take k) = h at hs1 ⊢
      go_wp2
      go_ret
      exact ⟨fnv_ret hs1.out, rfl⟩

theorem implFnv_any (s : ByteArray) (w : World) (hs : s.size ≤ maxLen) :
    Calls Try.prog 18 #[.string s] w fun e w' => e = .returned (.int .i64 (fnvOf s.data.toList)) ∧ w = w' := by
  unfold maxLen at hs
  go_enter Try.func18, Try.ntmps18
  go_wp2
  go_loop [3, 4] (fun h i => ∃ k : Nat, k ≤ s.size ∧ i = .int .i64 k ∧ h = .int .i64 (fnvOf (s.data.toList.take k))) (fun _ i => s.size - (intOf i).toNat)
  case atStart => exact ⟨0, Nat.zero_le _, rfl, rfl⟩
  case round =>
    obtain ⟨k, hk, rfl, rfl⟩ := hrel
    by_cases hlt : k < s.size
    · have hs1 := Lib.hid (fnv_snoc s k hlt)
      generalize fnvOf (s.data.toList.take k) = h at hs1 ⊢
      go_wp2
      go_round
      case rel => exact ⟨k + 1, by omega, by go_num, fnv_int hs1.out.symm⟩
      case measure => simp [intOf]; omega
    · have hs1 := Lib.hid (fnv_end s k hk hlt)
      generalize fnvOf (s.data.toList.take k) = h at hs1 ⊢
      go_wp2
      go_ret
      exact ⟨fnv_ret hs1.out, rfl⟩
end Go.Proofs.Ytbaefbkjobpnnaa
