/- A right message and its encoding are small; its bytes are bytes. Plain facts; no conditions. -/
import Derived.Test.YtkkbhlaakhkjnaaGreatDoorMrg2
import Derived.Test.YtkkbhlaakhkjnaaGreatDoorMrg3
import Derived.Test.YtkkbhlaakhkjnaaGreatDoorMrg1
set_option linter.unusedVariables false
namespace Go.Proofs.YtkkbhlaakhkjnaaGreatDoor
open Go.ChangeShapes Go.WideShapes Go.ChangeAt Go.RowKit

set_option maxRecDepth 100000 in
theorem putFL_small {no : Int} {s : ByteArray} (h : fOk no s = true) : (putFL no s).length ≤ 200 := by
  have hs := fOk_60 h
  unfold putFL
  rw [if_pos h]
  unfold putBody
  have h1 := bcd_len s
  have h2 := bytesL_len s
  have h3 := putLen_len (s.size : Int) 2
  have h4 := putLen_len (s.size : Int) 3
  repeat' split
  all_goals (try rw [List.length_append])
  all_goals omega
set_option maxRecDepth 100000 in
theorem bodyL_small {l : List FieldD} (h : ∀ x ∈ l, fOk x.1 x.2 = true) : (bodyL l).length ≤ 200 * l.length := by
  induction l with
  | nil => simp [bodyL]
  | cons x l ih =>
    have h1 := ih fun y hy => h y (List.mem_cons_of_mem _ hy)
    have h2 := putFL_small (h x (List.mem_cons_self ..))
    unfold bodyL at h1 ⊢
    rw [List.flatMap_cons, List.length_append, List.length_cons]
    omega
set_option maxRecDepth 100000 in
theorem up_few {hi : Int} : ∀ (l : List FieldD) (lo : Int), l.Pairwise (fun a b => a.1 < b.1) → (∀ x ∈ l, lo ≤ x.1 ∧ x.1 ≤ hi) → l.length ≤ (hi + 1 - lo).toNat := by
  intro l
  induction l with
  | nil => intro lo _ _; exact Nat.zero_le _
  | cons x l ih =>
    intro lo hp hb
    obtain ⟨hx, hl⟩ := List.pairwise_cons.1 hp
    have h1 := hb x (List.mem_cons_self ..)
    have h2 := ih (x.1 + 1) hl fun y hy => ⟨by have := hx y hy; omega, (hb y (List.mem_cons_of_mem _ hy)).2⟩
    rw [List.length_cons]
    omega
set_option maxRecDepth 100000 in
theorem ok_small {m : MsgD} (h : msgOk m = true) : m.1.size = 4 ∧ m.2.length ≤ 102 ∧ (∀ x ∈ m.2, x.2.size ≤ 1048576) ∧ ∀ x ∈ m.2, x.2.size ≤ maxLen := by
  unfold msgOk mtiOk at h
  simp only [Bool.and_eq_true, decide_eq_true_eq] at h
  obtain ⟨hf, hp⟩ := listOk_all h.2
  refine ⟨h.1.2, ?_, fun x hx => by have := fOk_60 (hf x hx); omega, fun x hx => by have := fOk_60 (hf x hx); unfold maxLen; omega⟩
  exact up_few m.2 2 hp fun x hx => fOk_range (hf x hx)
set_option maxRecDepth 100000 in
theorem enc_small {m : MsgD} (h : msgOk m = true) : (encL m).length ≤ 30000 := by
  have h0 := (ok_small h).2.1
  unfold encL
  rw [if_pos h]
  unfold msgOk at h
  rw [Bool.and_eq_true] at h
  have h1 := bodyL_small (listOk_all h.2).1
  have h2 := bcd_len m.1
  have h3 : (bitsL m.2).length ≤ 16 := by
    unfold bitsL
    split
    · rw [putB_len8]; omega
    · rw [List.length_append, putB_len8, putB_len8]; omega
  rw [List.length_append, List.length_append]
  omega
set_option maxRecDepth 100000 in
theorem okB_bytes {p : List Int} (h : okB p) : isBytes p := by
  intro z hz
  obtain ⟨j, hj, rfl⟩ := List.mem_iff_getElem.1 hz
  have := h.2 j
  rwa [List.getD_eq_getElem?_getD, List.getElem?_eq_getElem hj] at this
set_option maxRecDepth 100000 in
theorem isBytes_app {p q : List Int} (hp : isBytes p) (hq : isBytes q) : isBytes (p ++ q) := fun z hz => (List.mem_append.1 hz).elim (hp z) (hq z)
set_option maxRecDepth 100000 in
theorem encL_bytes {m : MsgD} (h : msgOk m = true) : isBytes (encL m) := by
  unfold encL
  rw [if_pos h]
  unfold msgOk at h
  rw [Bool.and_eq_true] at h
  have hf := (listOk_all h.2).1
  refine isBytes_app (isBytes_app (bcd_bytes _) ?_) ?_
  · have h1 : okB (putB (highs m.2)) := (putB_bit (highs_bd hf)).1
    unfold bitsL
    split
    · exact okB_bytes (putB_bit fun k hk => by have := lows_bd hf k hk; omega).1
    · refine isBytes_app (okB_bytes (putB_bit fun k hk => ?_).1) (okB_bytes h1)
      rcases List.mem_append.1 hk with hk | hk
      · have := lows_bd hf k hk; omega
      · rw [List.mem_singleton.1 hk]; omega
  · intro z hz
    unfold bodyL at hz
    obtain ⟨x, hx, hzx⟩ := List.mem_flatMap.1 hz
    exact putFL_bytes (hf x hx) z hzx
set_option maxRecDepth 100000 in
theorem ow_blank (T : TypeId) (K : IntKind) (B : Nat) (w : World) (hB : B ≤ w.heap.size) : ow T K B (w.alloc (.cells #[] T)) (.slice (some ⟨w.heap.size, 0, none⟩) 0 0) [] :=
  ⟨rfl, Or.inr ⟨w.heap.size, 0, #[], rfl, hB, heap_alloc_new _ _, Nat.le_refl _, Nat.zero_le _, by simp, by simp⟩⟩
end Go.Proofs.YtkkbhlaakhkjnaaGreatDoor
