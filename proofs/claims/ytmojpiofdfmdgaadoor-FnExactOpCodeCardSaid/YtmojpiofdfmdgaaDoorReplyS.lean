/- RsText, ReplyMti, TextRs and MtiKnown of the reference; no conditions. -/
import Derived.Test.YtmojpiofdfmdgaaDoorReplyP
import Derived.Test.YtmojpiofdfmdgaaDoorDigS
import Derived.Test.YtmojpiofdfmdgaaDoorConv
import Derived.RegionTactic
set_option linter.unusedVariables false
namespace Go.Proofs.YtmojpiofdfmdgaaDoor
open Go.ChangeShapes Go.WideShapes Go.ChangeAt Go.RowKit

/-- block p holds these texts -/
def strsAt (w : World) (p : Nat) (L : List (List UInt8)) : Prop := ∀ (j : Nat) (x : List UInt8), L[j]? = some x → w.cell? ⟨p, j, none⟩ = some (.string ⟨x.toArray⟩)
set_option maxRecDepth 100000 in
theorem strs_at (w : World) (T : TypeId) (L : List (List UInt8)) (us : Array Value) (hu : us = (L.map fun x => Value.string ⟨x.toArray⟩).toArray) : strsAt (w.alloc (.cells us T)) w.heap.size L := by
  subst hu
  intro j x hx
  rw [cell_of_row _ _ j _ _ (0, 0) (heap_alloc_new _ _)]
  simp [hx]
set_option maxRecDepth 100000 in
theorem str_no {a b : ByteArray} (h : a ≠ b) : (a.toList == b.toList) = false := by
  rw [beq_eq_false_iff_ne, ByteArray.toList_eq, ByteArray.toList_eq]
  intro e
  exact h (ByteArray.ext (Array.toList_inj.1 e))
set_option maxRecDepth 100000 in
theorem specIn_any (n lo hi : Int) (w : World) : Calls Tryd.prog 19 #[.int .i64 n, .int .i64 lo, .int .i64 hi] w fun e w' => e = .returned (.bool (decide (lo ≤ n ∧ n ≤ hi))) ∧ w = w' := by
  by_cases h0 : lo ≤ n
  · by_cases h1 : n ≤ hi
    · have hd : Hid (decide (lo ≤ n ∧ n ≤ hi) = true) := Lib.hid (by simp [h0, h1])
      rw [hd.out]
      go_enter Tryd.func19, Tryd.ntmps19
      go_wp2
      go_ret
      exact ⟨rfl, rfl⟩
    · have hd : Hid (decide (lo ≤ n ∧ n ≤ hi) = false) := Lib.hid (by simp [h1])
      rw [hd.out]
      go_enter Tryd.func19, Tryd.ntmps19
      go_wp2
      go_ret
      exact ⟨rfl, rfl⟩
  · have hd : Hid (decide (lo ≤ n ∧ n ≤ hi) = false) := Lib.hid (by simp [h0])
    rw [hd.out]
    go_enter Tryd.func19, Tryd.ntmps19
    go_wp2
    go_ret
    exact ⟨rfl, rfl⟩
end Go.Proofs.YtmojpiofdfmdgaaDoor
