/- The check digit finds every change of one digit: plain numbers and lists; no conditions. -/
import Derived.Test.YtbaefbkjobpnnaaLuhnOk
set_option linter.unusedVariables false
namespace Go.Proofs.Ytbaefbkjobpnnaa
open Go.ChangeShapes Go.WideShapes Go.ChangeAt Go.RowKit

theorem twice_inj {x y : Int} (hx0 : 0 ≤ x) (hx1 : x ≤ 9) (hy0 : 0 ≤ y) (hy1 : y ≤ 9) (h : twiceOf x = twiceOf y) : x = y := by
  unfold twiceOf at h
  split at h <;> split at h <;> omega
/-- one digit turned turns the sum by less than ten -/
theorem luSum_set : ∀ (l : List UInt8) (k : Nat) (c b : UInt8), l[k]? = some b → isDig b = true → isDig c = true → b ≠ c →
    ∃ x y : Int, luSum (l.set k c) = luSum l - x + y ∧ 0 ≤ x ∧ x ≤ 9 ∧ 0 ≤ y ∧ y ≤ 9 ∧ x ≠ y
  | [], k, c, b, h, _, _, _ => by simp at h
  | a :: l, 0, c, b, h, hb, hc, hne => by
    obtain rfl : a = b := by simpa using h
    have h1 := (isDig_iff a).1 hb
    have h2 := (isDig_iff c).1 hc
    have h3 : dOf a ≠ dOf c := fun e => hne (UInt8.toNat_inj.1 (by unfold dOf at e; omega))
    have ha0 : 0 ≤ dOf a ∧ dOf a ≤ 9 := by unfold dOf; omega
    have hc0 : 0 ≤ dOf c ∧ dOf c ≤ 9 := by unfold dOf; omega
    simp only [List.set_cons_zero, luSum]
    by_cases hp : l.length % 2 = 0
    · rw [if_pos hp, if_pos hp]
      have ta := twice_bd ha0.1 ha0.2
      have tc := twice_bd hc0.1 hc0.2
      exact ⟨twiceOf (dOf a), twiceOf (dOf c), by omega, ta.1, ta.2, tc.1, tc.2, fun e => h3 (twice_inj ha0.1 ha0.2 hc0.1 hc0.2 e)⟩
    · rw [if_neg hp, if_neg hp]
      exact ⟨dOf a, dOf c, by omega, ha0.1, ha0.2, hc0.1, hc0.2, h3⟩
  | a :: l, k + 1, c, b, h, hb, hc, hne => by
    obtain ⟨x, y, e, h1⟩ := luSum_set l k c b (by simpa using h) hb hc hne
    refine ⟨x, y, ?_, h1⟩
    simp only [List.set_cons_succ, luSum, List.length_set]
    omega
theorem size_of (l : List UInt8) : (⟨l.toArray⟩ : ByteArray).size = l.length := rfl
theorem init_of (l : List UInt8) : initOf ⟨l.toArray⟩ = ⟨l.dropLast.toArray⟩ := by
  unfold initOf
  apply ByteArray.ext
  rw [ByteArray.data_extract, size_of]
  apply Array.toList_inj.1
  simp [List.dropLast_eq_take]
theorem digs_list {t : List UInt8} (h1 : 1 ≤ t.length) (hd : t.all isDig = true) : digs ⟨t.toArray⟩ = true := by
  simp only [digs, size_of, Bool.and_eq_true, decide_eq_true_eq]
  exact ⟨h1, by simpa using hd⟩
theorem luOk_snoc (t : List UInt8) (c : UInt8) (h1 : 1 ≤ t.length) (hd : t.all isDig = true) (hc : isDig c = true) : luOk ⟨(t ++ [c]).toArray⟩ = (luVal ⟨t.toArray⟩ == dOf c) := by
  have h2 : digs ⟨(t ++ [c]).toArray⟩ = true := digs_list (by simp) (by simp [hd, hc])
  have h3 : decide (2 ≤ (⟨(t ++ [c]).toArray⟩ : ByteArray).size) = true := decide_eq_true (by rw [size_of]; simp; omega)
  unfold luOk
  rw [h2, h3, init_of, List.dropLast_concat]
  simp
/-- the number with its check digit -/
theorem luhn_yes (t : List UInt8) (c : UInt8) (h1 : 1 ≤ t.length) (hd : t.all isDig = true) (hc : isDig c = true) (h : dOf c = luVal ⟨t.toArray⟩) : luOk ⟨(t ++ [c]).toArray⟩ = true := by
  rw [luOk_snoc t c h1 hd hc, h]; simp
/-- .. one digit turned -/
theorem luhn_no (t : List UInt8) (c : UInt8) (h1 : 1 ≤ t.length) (hd : t.all isDig = true) (hc : isDig c = true) (h : dOf c = luVal ⟨t.toArray⟩)
    (k : Nat) (b x : UInt8) (hk : (t ++ [c])[k]? = some b) (hx : isDig x = true) (hne : b ≠ x) : luOk ⟨((t ++ [c]).set k x).toArray⟩ = false := by
  by_cases hlt : k < t.length
  · have hb : t[k]? = some b := by rw [List.getElem?_append_left hlt] at hk; exact hk
    have hbd : isDig b = true := List.all_eq_true.1 hd b (List.mem_of_getElem? hb)
    rw [List.set_append_left _ _ hlt]
    have hd' : (t.set k x).all isDig = true := by
      rw [List.all_eq_true] at hd ⊢
      intro y hy
      rcases List.mem_or_eq_of_mem_set hy with h | h
      · exact hd y h
      · rw [h]; exact hx
    rw [luOk_snoc _ c (by simpa using h1) hd' hc, h]
    obtain ⟨u, v, e, hu0, hu1, hv0, hv1, huv⟩ := luSum_set t k x b hb hbd hx hne
    have g1 := digs_list h1 hd
    have g2 := digs_list (t := t.set k x) (by simpa using h1) hd'
    unfold luVal
    rw [if_pos g1, if_pos g2]
    show ((10 - luSum (t.set k x) % 10) % 10 == (10 - luSum t % 10) % 10) = false
    rw [beq_eq_false_iff_ne, e]
    omega
  · have hkl : k = t.length := by
      have : k < (t ++ [c]).length := (List.getElem?_eq_some_iff.1 hk).1
      simp at this
      omega
    subst hkl
    have hb : c = b := by simpa using hk
    subst hb
    rw [List.set_append_right _ _ (Nat.le_refl _), Nat.sub_self, List.set_cons_zero, luOk_snoc t x h1 hd hx, ← h, beq_eq_false_iff_ne]
    intro e
    exact hne (UInt8.toNat_inj.1 (by unfold dOf at e; omega))
end Go.Proofs.Ytbaefbkjobpnnaa
