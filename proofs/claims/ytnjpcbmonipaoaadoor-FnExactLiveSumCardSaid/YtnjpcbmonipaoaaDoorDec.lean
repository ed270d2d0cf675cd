/- The number that a text of digits denotes; no conditions. -/
import Derived.Test.YtnjpcbmonipaoaaDoorBase
set_option linter.unusedVariables false
namespace Go.Proofs.YtnjpcbmonipaoaaDoor
open Go.ChangeShapes Go.WideShapes Go.ChangeAt Go.RowKit

def decStep (n : Int) (c : UInt8) : Int := 10 * n + ((c.toNat : Int) - 48)
/-- the number that the digits denote -/
def decOf (l : List UInt8) : Int := l.foldl decStep 0
/-- do the digits denote money? -/
def scanOk (s : ByteArray) : Bool := digs s && decide (decOf s.data.toList ≤ 4611686018427387904)

set_option maxRecDepth 100000 in
theorem dec_snoc (s : ByteArray) (k : Nat) (h : k < s.size) : decOf (s.data.toList.take (k + 1)) = 10 * decOf (s.data.toList.take k) + ((s[k].toNat : Int) - 48) := by
  rw [take_one s k h]; simp [decOf, List.foldl_append, decStep]
set_option maxRecDepth 100000 in
theorem dec_nonneg : ∀ (l : List UInt8) (n : Int), 0 ≤ n → l.all isDig = true → n ≤ l.foldl decStep n
  | [], n, _, _ => Int.le_refl _
  | c :: l, n, h0, hd => by
    simp only [List.all_cons, Bool.and_eq_true] at hd
    have h1 := (isDig_iff c).1 hd.1
    have h2 : n ≤ decStep n c := by unfold decStep; omega
    exact Int.le_trans h2 (dec_nonneg l (decStep n c) (by omega) hd.2)
set_option maxRecDepth 100000 in
theorem dec_split (l : List UInt8) (k : Nat) : decOf l = (l.drop k).foldl decStep (decOf (l.take k)) := by
  unfold decOf
  rw [← List.foldl_append, List.take_append_drop]
set_option maxRecDepth 100000 in
theorem all_drop (l : List UInt8) (k : Nat) (h : l.all isDig = true) : (l.drop k).all isDig = true := by
  rw [List.all_eq_true] at h ⊢
  exact fun x hx => h x (List.mem_of_mem_drop hx)
set_option maxRecDepth 100000 in
theorem all_take (l : List UInt8) (k : Nat) (h : l.all isDig = true) : (l.take k).all isDig = true := by
  rw [List.all_eq_true] at h ⊢
  exact fun x hx => h x (List.mem_of_mem_take hx)
set_option maxRecDepth 100000 in
theorem dec_pos (l : List UInt8) (h : l.all isDig = true) : 0 ≤ decOf l := dec_nonneg l 0 (Int.le_refl _) h
set_option maxRecDepth 100000 in
theorem digs_all {s : ByteArray} (h : digs s = true) : s.data.toList.all isDig = true := by
  simp only [digs, Bool.and_eq_true] at h; exact h.2
set_option maxRecDepth 100000 in
/-- a first part denotes no more than the whole -/
theorem dec_mono (s : ByteArray) (k : Nat) (h : digs s = true) : decOf (s.data.toList.take k) ≤ decOf s.data.toList := by
  have hd := digs_all h
  rw [dec_split s.data.toList k]
  exact dec_nonneg _ _ (dec_pos _ (all_take _ k hd)) (all_drop _ k hd)
set_option maxRecDepth 100000 in
/-- what passes the limit in the midst is no money -/
theorem scan_over (s : ByteArray) (k : Nat) (h : k < s.size) (ho : 4611686018427387904 < decOf (s.data.toList.take (k + 1))) : scanOk s = false := by
  cases hd : digs s
  · simp [scanOk, hd]
  · have := dec_mono s (k + 1) hd
    simp only [scanOk, hd, Bool.true_and]
    exact decide_eq_false (by omega)
set_option maxRecDepth 100000 in
theorem scan_bad (s : ByteArray) (h : digs s = false) : scanOk s = false := by simp [scanOk, h]
set_option maxRecDepth 100000 in
theorem scan_good (s : ByteArray) (k : Nat) (hk : ¬ k < s.size) (h0 : 0 < s.size) (ha : (s.data.toList.take k).all isDig = true) (hm : decOf (s.data.toList.take k) ≤ 4611686018427387904) : scanOk s = true := by
  simp only [scanOk, digs_yes s k hk h0 ha, Bool.true_and]
  rw [take_end s k hk] at hm
  exact decide_eq_true hm
set_option maxRecDepth 100000 in
theorem scan_digs {s : ByteArray} (h : scanOk s = true) : digs s = true ∧ decOf s.data.toList ≤ 4611686018427387904 := by
  simp only [scanOk, Bool.and_eq_true, decide_eq_true_eq] at h; exact h
set_option maxRecDepth 100000 in
theorem empty_yes (s : ByteArray) (h : ¬ 0 < s.size) : s.toList.isEmpty = true := by
  have := not_empty s
  rw [decide_eq_false h] at this
  simpa using this
set_option maxRecDepth 100000 in
theorem empty_no (s : ByteArray) (h : 0 < s.size) : s.toList.isEmpty = false := by
  have := not_empty s
  rw [decide_eq_true h] at this
  simpa using this
end Go.Proofs.YtnjpcbmonipaoaaDoor
