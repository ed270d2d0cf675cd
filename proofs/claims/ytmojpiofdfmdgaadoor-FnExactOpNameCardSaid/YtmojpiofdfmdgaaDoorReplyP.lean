/- What chapter 6 asks, as plain functions of the arguments: the texts of the codes, the known types, the type of a reply. No conditions. -/
import Derived.Test.YtmojpiofdfmdgaaDoorDig
set_option linter.unusedVariables false
namespace Go.Proofs.YtmojpiofdfmdgaaDoor
open Go.ChangeShapes Go.WideShapes Go.ChangeAt Go.RowKit

def rsTexts : List (List UInt8) := [[48, 48], [51, 48], [49, 50], [49, 52], [49, 51], [50, 53], [57, 52], [53, 49], [54, 53], [54, 49], [57, 54]]
set_option maxRecDepth 100000 in
theorem rsTexts_len : rsTexts.length = 11 := rfl
/-- the text of a code -/
def rsText (code : Int) : ByteArray := if 0 ≤ code ∧ code ≤ 10 then ⟨(rsTexts.getD code.toNat []).toArray⟩ else ⟨#[]⟩
set_option maxRecDepth 100000 in
theorem rsText_out {code : Int} (h : ¬ (0 ≤ code ∧ code ≤ 10)) : rsText code = ⟨#[]⟩ := if_neg h
set_option maxRecDepth 100000 in
theorem rsText_in {k : Nat} (h : k < 11) : rsText (k : Int) = ⟨(rsTexts.getD k []).toArray⟩ := by unfold rsText; rw [if_pos (by omega), Int.toNat_natCast]
set_option maxRecDepth 100000 in
theorem rsText_at {k : Nat} (h : k < 11) : ∃ t, rsTexts[k]? = some t ∧ rsText (k : Int) = ⟨t.toArray⟩ := by
  refine ⟨rsTexts.getD k [], ?_, rsText_in h⟩
  rw [List.getD_eq_getElem?_getD, List.getElem?_eq_getElem (show k < rsTexts.length by rw [rsTexts_len]; exact h)]; rfl
set_option maxRecDepth 100000 in
theorem four {s : ByteArray} (h : s.size = 4) : ∃ a b c d, s = ⟨#[a, b, c, d]⟩ := by
  obtain ⟨⟨l⟩⟩ := s
  match l, h with
  | [a, b, c, d], _ => exact ⟨a, b, c, d, rfl⟩
set_option maxRecDepth 100000 in
theorem rsText_size (code : Int) : (rsText code).size ≤ 2 := by
  unfold rsText
  split
  · next h =>
    obtain ⟨k, rfl⟩ := Int.eq_ofNat_of_zero_le h.1
    have hk : k < 11 := by omega
    show (rsTexts.getD k []).length ≤ 2
    exact (by decide : ∀ k, k < 11 → (rsTexts.getD k []).length ≤ 2) k hk
  · exact Nat.zero_le _
/-- the code of a text -/
def textRs (s : ByteArray) : Int × Bool := match rsTexts.findIdx? (fun x => decide ((⟨x.toArray⟩ : ByteArray) = s)) with
  | some i => ((i : Int), true)
  | none => (0, false)
set_option maxRecDepth 100000 in
theorem textRs_hit {s : ByteArray} {i : Nat} {x : List UInt8} (hx : rsTexts[i]? = some x) (he : (⟨x.toArray⟩ : ByteArray) = s) (hN : ∀ j y, j < i → rsTexts[j]? = some y → (⟨y.toArray⟩ : ByteArray) ≠ s) : textRs s = ((i : Int), true) := by
  obtain ⟨hi, hx'⟩ := List.getElem?_eq_some_iff.1 hx
  have : rsTexts.findIdx? (fun x => decide ((⟨x.toArray⟩ : ByteArray) = s)) = some i := by
    rw [List.findIdx?_eq_some_iff_getElem]
    refine ⟨hi, by rw [hx']; simpa using he, fun j hj => ?_⟩
    have := hN j _ hj (List.getElem?_eq_getElem (by omega))
    simpa using this
  unfold textRs
  rw [this]
set_option maxRecDepth 100000 in
theorem textRs_none {s : ByteArray} (hN : ∀ j y, j < 11 → rsTexts[j]? = some y → (⟨y.toArray⟩ : ByteArray) ≠ s) : textRs s = (0, false) := by
  have : rsTexts.findIdx? (fun x => decide ((⟨x.toArray⟩ : ByteArray) = s)) = none := by
    rw [List.findIdx?_eq_none_iff]
    intro x hx
    obtain ⟨j, hj⟩ := List.mem_iff_getElem?.1 hx
    have := hN j x (by have := (List.getElem?_eq_some_iff.1 hj).1; rwa [rsTexts_len] at this) hj
    simpa using this
  unfold textRs
  rw [this]
def mtiKn (s : ByteArray) : Bool := s.toList == [48, 49, 48, 48] || s.toList == [48, 50, 48, 48] || s.toList == [48, 50, 50, 48]
/-- the type of a reply -/
def replyMti (s : ByteArray) : ByteArray := if digs s = true ∧ s.size = 4 then (if (s.data.toList.getD 2 0).toNat % 2 = 1 then ⟨#[]⟩ else ⟨#[s.data.toList.getD 0 0, s.data.toList.getD 1 0, s.data.toList.getD 2 0 + 1, s.data.toList.getD 3 0]⟩) else ⟨#[]⟩
set_option maxRecDepth 100000 in
theorem replyMti_odd {s : ByteArray} (hd : digs s = true) (h4 : s.size = 4) (ho : (s[2]'(by omega)).toNat % 2 = 1) : replyMti s = ⟨#[]⟩ := by
  obtain ⟨a, b, c, d, rfl⟩ := four h4
  unfold replyMti
  rw [if_pos ⟨hd, h4⟩]
  exact if_pos ho
set_option maxRecDepth 100000 in
theorem replyMti_even {s : ByteArray} (hd : digs s = true) (h4 : s.size = 4) (ho : ¬ (s[2]'(by omega)).toNat % 2 = 1) : replyMti s = s.extract 0 2 ++ ⟨#[s[2] + 1]⟩ ++ s.extract 3 4 := by
  obtain ⟨a, b, c, d, rfl⟩ := four h4
  unfold replyMti
  rw [if_pos ⟨hd, h4⟩]
  exact if_neg ho
set_option maxRecDepth 100000 in
theorem replyMti_size (s : ByteArray) : (replyMti s).size ≤ 4 := by
  unfold replyMti
  repeat' split
  all_goals first | exact Nat.zero_le _ | exact Nat.le_refl _
end Go.Proofs.YtmojpiofdfmdgaaDoor
