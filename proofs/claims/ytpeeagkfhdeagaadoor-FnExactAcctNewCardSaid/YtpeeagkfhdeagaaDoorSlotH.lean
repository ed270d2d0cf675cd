/- What the laws ask of slots' sizes; marks in one slot; no conditions. -/
import Derived.Test.YtpeeagkfhdeagaaDoorSlotMk
import Derived.Test.YtpeeagkfhdeagaaDoorSlotP
set_option linter.unusedVariables false
namespace Go.Proofs.YtpeeagkfhdeagaaDoor
open Go.ChangeShapes Go.WideShapes Go.ChangeAt Go.RowKit

set_option maxRecDepth 100000 in
theorem mem_sum {α : Type} (f : α → Nat) : ∀ {l : List α} {x : α}, x ∈ l → f x ≤ (l.map f).sum
  | [], x, h => by simp at h
  | y :: l, x, h => by
    rw [List.map_cons, List.sum_cons]
    rcases List.mem_cons.1 h with rfl | h
    · omega
    · have := mem_sum f h; omega
set_option maxRecDepth 100000 in
theorem lens_sum : ∀ l : List SlotD, ((lensOf l).map fun n => 2 + n).sum ≤ 2 * l.length + (l.map slotSz).sum
  | [] => by simp [lensOf]
  | x :: l => by
    have := lens_sum l
    unfold lensOf slotSz at this ⊢
    simp only [List.map_cons, List.sum_cons, List.length_cons] at this ⊢
    omega
set_option maxRecDepth 100000 in
theorem kAt_sz {l : List SlotD} {N : Nat} (h : slotsSz l ≤ N) (k : Int) : kAt k (lensOf l) l.length ≤ k + 2 * (N : Int) := by
  unfold kAt
  have h1 := lens_sum l
  have h2 : (lensOf l).take l.length = lensOf l := List.take_of_length_le (by rw [lensOf_len]; exact Nat.le_refl _)
  rw [h2]
  unfold slotsSz at h
  omega
set_option maxRecDepth 100000 in
theorem kAt_up (l : List SlotD) (k : Int) : k ≤ kAt k (lensOf l) l.length := (kAt_le k (lensOf l) l.length).1
set_option maxRecDepth 100000 in
theorem sz_len {l : List SlotD} {N : Nat} (h : slotsSz l ≤ N) : l.length ≤ N := by unfold slotsSz at h; omega
set_option maxRecDepth 100000 in
theorem sz_reply {l : List SlotD} {N : Nat} (h : slotsSz l ≤ N) : ∀ x ∈ l, x.2.2.length ≤ N := fun x hx => by
  have h1 := mem_sum slotSz hx
  have h2 : x.2.2.length ≤ slotSz x := by unfold slotSz; omega
  unfold slotsSz at h
  omega
set_option maxRecDepth 100000 in
theorem sz_marks {l : List SlotD} {N : Nat} {k : Int} (h : slotsSz l ≤ N) (hk : k + 2 * (N : Int) ≤ 1000000000) : kAt k (lensOf l) l.length ≤ 1000000000 := by
  have := kAt_sz h k
  omega
set_option maxRecDepth 100000 in
theorem slotsSz_snoc (l : List SlotD) (x : SlotD) : slotsSz (l ++ [x]) = slotsSz l + slotSz x + 1 := by
  unfold slotsSz
  simp only [List.length_append, List.length_singleton, List.map_append, List.map_cons, List.map_nil, List.sum_append, List.sum_cons, List.sum_nil]
  omega
set_option maxRecDepth 100000 in
theorem slotOfL_len {l : List SlotD} {t m : ByteArray} {N : Nat} (h : ∀ x ∈ l, x.2.2.length ≤ N) : (slotOfL l t m).1.length ≤ N := by
  unfold slotOfL
  split
  · rename_i x hx
    exact h x (List.mem_of_find?_eq_some hx)
  · exact Nat.zero_le _
set_option maxRecDepth 100000 in
theorem slotPutL_sz (l : List SlotD) (x : SlotD) : slotsSz (slotPutL l x).1 ≤ slotsSz l + slotSz x + 1 := by
  unfold slotPutL
  split
  · rw [slotsSz_snoc]; exact Nat.le_refl _
  · exact Nat.zero_le _
end Go.Proofs.YtpeeagkfhdeagaaDoor
