/- The texts of money: digits without a leading zero; no conditions. -/
import Derived.Test.YtdjlhijaadombaaDoorDec
import Derived.Lib.ItoaNum
set_option linter.unusedVariables false
namespace Go.Proofs.YtdjlhijaadombaaDoor
open Go.ChangeShapes Go.WideShapes Go.ChangeAt Go.RowKit

/-- does the text begin with a zero that stands for nothing? -/
def lead : List UInt8 → Bool
  | c :: _ :: _ => c == 48
  | _ => false
def txtOk (s : ByteArray) : Bool := scanOk s && !lead s.data.toList
def txtVal (s : ByteArray) : Int := if txtOk s = true then decOf s.data.toList else 0

set_option maxRecDepth 100000 in
theorem digits_head : ∀ (u : Nat), 1 ≤ u → ∃ c r, Lib.decDigits u = c :: r ∧ c ≠ 48 := by
  intro u
  induction u using Nat.strongRecOn with
  | _ u ih =>
    intro h1
    by_cases h : u < 10
    · refine ⟨UInt8.ofNat (48 + u), [], Lib.decDigits_one h, ?_⟩
      intro e
      have := congrArg UInt8.toNat e
      rw [UInt8.toNat_ofNat'] at this
      simp at this
      omega
    · obtain ⟨c, r, e, hc⟩ := ih (u / 10) (by omega) (by omega)
      refine ⟨c, r ++ [UInt8.ofNat (48 + u % 10)], ?_, hc⟩
      rw [Lib.decDigits, dif_neg h, e]; rfl
set_option maxRecDepth 100000 in
/-- what has a leading zero is the text of no number -/
theorem lead_no (l : List UInt8) (u : Nat) (h : lead l = true) : Lib.decDigits u ≠ l := by
  intro e
  match l, h with
  | c :: d :: r, h =>
    have hc : c = 48 := by simpa [lead] using h
    rcases Nat.eq_zero_or_pos u with h0 | h0
    · subst h0
      rw [Lib.decDigits_one (by decide)] at e
      simp at e
    · obtain ⟨c', r', e', hc'⟩ := digits_head u h0
      rw [e'] at e
      simp only [List.cons.injEq] at e
      exact hc' (e.1.trans hc)
set_option maxRecDepth 100000 in
theorem dec_app (m : List UInt8) (c : UInt8) : decOf (m ++ [c]) = 10 * decOf m + ((c.toNat : Int) - 48) := by simp [decOf, List.foldl_append, decStep]
set_option maxRecDepth 100000 in
theorem dec_head (c : UInt8) (r : List UInt8) (hd : (c :: r).all isDig = true) (hc : c ≠ 48) : 1 ≤ decOf (c :: r) := by
  simp only [List.all_cons, Bool.and_eq_true] at hd
  have h1 := (isDig_iff c).1 hd.1
  have h2 : c.toNat ≠ 48 := fun e => hc (UInt8.toNat_inj.1 (by simpa using e))
  have h3 : 1 ≤ decStep 0 c := by unfold decStep; omega
  exact Int.le_trans h3 (dec_nonneg r _ (by omega) hd.2)
set_option maxRecDepth 100000 in
/-- what has none is the text of its number -/
theorem lead_yes : ∀ (n : Nat) (l : List UInt8), l.length = n → l ≠ [] → l.all isDig = true → lead l = false → Lib.decDigits (decOf l).toNat = l := by
  intro n
  induction n with
  | zero => intro l hl hne _ _; exact absurd (List.eq_nil_of_length_eq_zero hl) hne
  | succ n ih =>
    intro l hl hne hd hlead
    obtain ⟨m, c, rfl⟩ : ∃ m c, l = m ++ [c] := ⟨l.dropLast, l.getLast hne, (List.dropLast_concat_getLast hne).symm⟩
    have hm : m.all isDig = true := by simp only [List.all_append, Bool.and_eq_true] at hd; exact hd.1
    have hc : isDig c = true := by simpa using (by simp only [List.all_append, Bool.and_eq_true] at hd; exact hd.2 : [c].all isDig = true)
    have h1 := (isDig_iff c).1 hc
    have hcn : ∀ j : Nat, j = c.toNat - 48 → UInt8.ofNat (48 + j) = c := fun j hj => by rw [hj, show 48 + (c.toNat - 48) = c.toNat by omega]; simp
    rw [dec_app]
    cases m with
    | nil =>
      have : (10 * decOf [] + ((c.toNat : Int) - 48)).toNat = c.toNat - 48 := by simp [decOf]; omega
      rw [this, Lib.decDigits_one (by omega), hcn _ rfl]; rfl
    | cons b r =>
      have hb : b ≠ 48 := by
        intro e
        have : lead ((b :: r) ++ [c]) = true := by cases r <;> simp [lead, e]
        rw [this] at hlead; cases hlead
      have hpos := dec_head b r hm hb
      have hlm : lead (b :: r) = false := by cases r <;> simp [lead, hb]
      have hi := ih (b :: r) (by simp at hl ⊢; omega) (by simp) hm hlm
      generalize hq : decOf (b :: r) = q at hi hpos
      rw [Lib.decDigits, dif_neg (by omega), show (10 * q + ((c.toNat : Int) - 48)).toNat / 10 = q.toNat by omega, hi, hcn _ (by omega)]
set_option maxRecDepth 100000 in
theorem nd_le : ∀ (k u : Nat), u < 10 ^ (k + 1) → Lib.nDigits u ≤ k + 1
  | 0, u, h => by rw [Lib.nDigits_small (by simpa using h)]; exact Nat.le_refl _
  | k + 1, u, h => by
    by_cases h1 : u < 10
    · rw [Lib.nDigits_small h1]; omega
    · rw [Lib.nDigits_big h1]
      have := nd_le k (u / 10) (by rw [Nat.pow_succ] at h; omega)
      omega
set_option maxRecDepth 100000 in
theorem txt_short {s : ByteArray} (h : txtOk s = true) : s.size ≤ 19 ∧ Lib.decDigits (decOf s.data.toList).toNat = s.data.toList := by
  simp only [txtOk, Bool.and_eq_true, Bool.not_eq_true'] at h
  have h2 := scan_digs h.1
  have hne : s.data.toList ≠ [] := by
    intro e
    have h4 : s.data.toList.length = s.size := by simp
    rw [e] at h4
    have := digs_pos h2.1
    simp only [List.length_nil] at h4
    omega
  have h5 := lead_yes _ s.data.toList rfl hne (digs_all h2.1) h.2
  refine ⟨?_, h5⟩
  have h6 := congrArg List.length h5
  rw [Lib.decDigits_length] at h6
  have h7 := nd_le 18 (decOf s.data.toList).toNat (by have := h2.2; omega)
  have h4 : s.data.toList.length = s.size := by simp
  omega
set_option maxRecDepth 100000 in
theorem digs_ne {s : ByteArray} (h : digs s = true) : s.data.toList ≠ [] := by
  intro e
  have h4 : s.data.toList.length = s.size := by simp
  rw [e] at h4
  have := digs_pos h
  simp only [List.length_nil] at h4
  omega
set_option maxRecDepth 100000 in
/-- the text of the number is the text itself: no leading zero -/
theorem txt_eq {s : ByteArray} (hd : digs s = true) (hsc : scanOk s = true) : txtOk s = (Lib.decDigits (decOf s.data.toList).toNat == s.data.toList) := by
  cases hl : lead s.data.toList
  · have := lead_yes _ s.data.toList rfl (digs_ne hd) (digs_all hd) hl
    rw [this]; simp [txtOk, hsc, hl]
  · have := lead_no s.data.toList (decOf s.data.toList).toNat hl
    simp only [txtOk, hsc, hl, Bool.true_and, Bool.not_true]
    exact (beq_eq_false_iff_ne.2 this).symm
set_option maxRecDepth 100000 in
theorem lead_list : ∀ (l : List UInt8) (h : 1 < l.length), lead l = (l[0]'(by omega) == 48)
  | [], h => by simp at h
  | [a], h => by simp at h
  | a :: b :: r, h => rfl
set_option maxRecDepth 100000 in
theorem lead_get {s : ByteArray} (h : 1 < s.size) : lead s.data.toList = (s[0] == 48) := lead_list s.data.toList (by simpa using h)
set_option maxRecDepth 100000 in
theorem lead_one : ∀ (l : List UInt8) (h : ¬ 1 < l.length), lead l = false
  | [], h => rfl
  | [a], h => rfl
  | a :: b :: r, h => by simp at h
set_option maxRecDepth 100000 in
theorem lead_short {s : ByteArray} (h : ¬ 1 < s.size) : lead s.data.toList = false := lead_one s.data.toList (by simpa using h)
end Go.Proofs.YtdjlhijaadombaaDoor
