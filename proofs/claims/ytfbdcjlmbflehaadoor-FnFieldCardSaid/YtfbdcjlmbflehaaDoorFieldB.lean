/- Small facts on fields for the laws that put and get one; no conditions. -/
import Derived.Test.YtfbdcjlmbflehaaDoorRound
import Derived.Test.YtfbdcjlmbflehaaDoorFit
set_option linter.unusedVariables false
namespace Go.Proofs.YtfbdcjlmbflehaaDoor
open Go.ChangeShapes Go.WideShapes Go.ChangeAt Go.RowKit

set_option maxRecDepth 100000 in
theorem ow_single (w : World) (c : Int) (T : TypeId) : ow T .u8 w.heap.size (w.alloc (.cells #[.int .u8 c] T)) (.slice (some ⟨w.heap.size, 0, none⟩) 1 1) [c] := by
  refine ⟨rfl, Or.inr ⟨w.heap.size, 1, #[.int .u8 c], rfl, Nat.le_refl _, ?_, Nat.le_refl _, by decide, rfl, rfl⟩⟩
  show (w.heap.push _)[w.heap.size]? = _
  simp
set_option maxRecDepth 100000 in
theorem ow.rdOne {T : TypeId} {K : IntKind} {B : Nat} {w : World} {o : Obj} {v : Value} {L : List Int} (h : ow T K B (w.alloc o) v L) : rd K (w.heap.size + 1) (w.alloc o) v L := by
  have := h.nums.rd
  simpa using this
set_option maxRecDepth 100000 in
theorem cell_lt {w : World} {b o : Nat} {v : Value} (h : w.cell? ⟨b, o, none⟩ = some v) : b < w.heap.size := by
  rcases Nat.lt_or_ge b w.heap.size with h' | h'
  · exact h'
  · simp [World.cell?, Array.getElem?_eq_none h'] at h
set_option maxRecDepth 100000 in
theorem putLen_bytes {n : Nat} (hn : n ≤ 60) {d : Int} (hd : d = 2 ∨ d = 3) : isBytes (putLen n d) ∧ (putLen n d).length ≤ 2 := by
  have hl : lenDig d = true := by rcases hd with rfl | rfl <;> rfl
  obtain ⟨h1, h2, h3⟩ := wide_both hn hd
  have hs : ((⟨(wideOf (n : Nat) d).toArray⟩ : ByteArray).size : Int) = d := h2
  have hok : bcdOk ⟨(wideOf (n : Nat) d).toArray⟩ = true := (bcdOk_iff _).2 ⟨h1, by omega⟩
  unfold putLen
  rw [if_pos hl]
  exact ⟨bcd_bytes _, by rw [bcd_size hok]; omega⟩
set_option maxRecDepth 100000 in
theorem putFL_bytes {no : Int} {s : ByteArray} (h : fOk no s = true) : isBytes (putFL no s) := by
  have h60 := fOk_60 h
  have h1 := bcd_bytes s
  have h2 := bytesL_ok s
  have h3 := (putLen_bytes h60 (.inl rfl : (2 : Int) = 2 ∨ (2 : Int) = 3)).1
  have h4 := (putLen_bytes h60 (.inr rfl : (3 : Int) = 2 ∨ (3 : Int) = 3)).1
  unfold putFL putBody
  rw [if_pos h]
  repeat' split
  all_goals intro z hz
  all_goals try simp only [List.mem_append] at hz
  · exact h1 z hz
  · exact h2 z hz
  · exact hz.elim (h3 z) (h1 z)
  · exact hz.elim (h3 z) (h2 z)
  · exact hz.elim (h4 z) (h2 z)
set_option maxRecDepth 100000 in
theorem fit_back {no : Int} {s : ByteArray} (h : fOk no s = true) : fitRes no s = s := by
  have hb : okBy (fKind no) (fSize no) s = true := h
  have e : fitS (fKind no) (fSize no).toNat s = s := by
    unfold fitS
    split
    · next hk => rw [hk] at hb; simp [okBy] at hb; rw [show (fSize no).toNat - s.size = 0 by omega]; rfl
    · split
      · next hk => rw [hk] at hb; simp [okBy] at hb; rw [show (fSize no).toNat - s.size = 0 by omega, padR_zero]
      · rfl
  unfold fitRes
  rw [e, if_pos h]
end Go.Proofs.YtfbdcjlmbflehaaDoor
