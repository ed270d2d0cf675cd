/- Wide: both functions return a number padded with zeros; the library's table of powers of ten holds its numbers. -/
import Derived.Test.YtdjlhijaadombaaDoorNumI
import Derived.Lib.Repeat
import Derived.Lib.ItoaLen
set_option linter.unusedVariables false
namespace Go.Proofs.YtdjlhijaadombaaDoor
open Go.ChangeShapes Go.WideShapes Go.ChangeAt Go.RowKit

def wideOk (n w : Int) : Bool := decide (0 ≤ n) && decide (1 ≤ w) && decide (w ≤ 18) && decide (((Lib.decDigits n.toNat).length : Int) ≤ w)
def wideOf (n w : Int) : List UInt8 := if wideOk n w = true then List.replicate (w.toNat - (Lib.decDigits n.toNat).length) 48 ++ Lib.decDigits n.toNat else []
set_option maxRecDepth 100000 in
theorem wide_no {n w : Int} (h : wideOk n w = false) : wideOf n w = [] := by simp [wideOf, h]
set_option maxRecDepth 100000 in
theorem digits_more {n : Int} (h : 4611686018427387904 < n) : 18 < (Lib.decDigits n.toNat).length := by
  rw [Lib.decDigits_length]
  rcases Nat.lt_or_ge 18 (Lib.nDigits n.toNat) with h1 | h1
  · exact h1
  · exfalso
    have h2 := Lib.lt_pow_nDigits n.toNat
    have h3 : 10 ^ Lib.nDigits n.toNat ≤ 10 ^ 18 := Nat.pow_le_pow_right (by decide) h1
    have h4 : (10 : Nat) ^ 18 = 1000000000000000000 := by decide +kernel
    omega
set_option maxRecDepth 100000 in
theorem wide_mon {n w : Int} (h : wideOk n w = true) : isMon n = true := by
  simp only [wideOk, Bool.and_eq_true, decide_eq_true_eq] at h
  obtain ⟨⟨⟨h0, h1⟩, h2⟩, h3⟩ := h
  have : ¬ 4611686018427387904 < n := fun hm => by have := digits_more hm; omega
  simp [isMon]
  omega
set_option maxRecDepth 100000 in
theorem rep_one (c : Nat) : Lib.repeatL [48] c = List.replicate c 48 := by
  induction c with
  | zero => rfl
  | succ c ih => rw [List.replicate_succ, ← ih]; rfl
def sizeV : Value → Nat | .string s => s.size | _ => 0
/-- a padded text -/
def padOf (D t : List UInt8) : Prop := D.length ≤ t.length ∧ t = List.replicate (t.length - D.length) 48 ++ D
set_option maxRecDepth 100000 in
theorem pad_start (D : List UInt8) : padOf D D := ⟨Nat.le_refl _, by simp⟩
set_option maxRecDepth 100000 in
theorem pad_next {D t : List UInt8} (h : padOf D t) : padOf D (48 :: t) := by
  obtain ⟨h1, h2⟩ := h
  refine ⟨by simp; omega, ?_⟩
  rw [List.length_cons, show t.length + 1 - D.length = (t.length - D.length) + 1 by omega, List.replicate_succ, List.cons_append, ← h2]

set_option maxRecDepth 100000 in
set_option maxHeartbeats 800000 in
theorem implWide_any (n k : Int) (w : World) (hn : -9223372036854775808 ≤ n) (hn' : n ≤ 9223372036854775807) (htab : Lib.TabIs Tryd.prog w "internal/strconv.uint64pow10" .u64 Lib.pow10Tab) :
    Calls Tryd.prog 61 #[.int .i64 n, .int .i64 k] w fun e w' => e = .returned (strOf (wideOf n k)) ∧ Below w.heap.size w w' := by
  by_cases hbad : n < 0 ∨ k < 1 ∨ 18 < k
  · have hv : wideOf n k = [] := wide_no (by
      cases h : wideOk n k
      · rfl
      · simp only [wideOk, Bool.and_eq_true, decide_eq_true_eq] at h; omega)
    rw [hv]
    clear hv
    by_cases h0 : n < 0
    · go_enter Tryd.func61, Tryd.ntmps61
      go_wp2
      go_ret
      exact ⟨rfl, Below.refl _ _⟩
    · by_cases h1 : k < 1
      · go_enter Tryd.func61, Tryd.ntmps61
        go_wp2
        go_ret
        exact ⟨rfl, Below.refl _ _⟩
      · have h18 : 18 < k := by omega
        go_enter Tryd.func61, Tryd.ntmps61
        go_wp2
        go_ret
        exact ⟨rfl, Below.refl _ _⟩
  · have h0 : ¬ n < 0 := fun h => hbad (Or.inl h)
    have h1 : ¬ k < 1 := fun h => hbad (Or.inr (Or.inl h))
    have h18 : ¬ 18 < k := fun h => hbad (Or.inr (Or.inr h))
    have HI := Lib.hid (show Lib.itoa n = Lib.decDigits n.toNat by unfold Lib.itoa; rw [if_neg h0])
    have hlen := Lib.nDigits_le20 n.toNat (by omega)
    rw [← Lib.decDigits_length] at hlen
    clear hbad
    by_cases hlk : k < ((Lib.decDigits n.toNat).length : Int)
    · have hv : wideOf n k = [] := wide_no (by
        cases h : wideOk n k
        · rfl
        · simp only [wideOk, Bool.and_eq_true, decide_eq_true_eq] at h; omega)
      rw [hv]
      clear hv
      go_enter Tryd.func61, Tryd.ntmps61
      go_wp2_with (go_at_call 64; refine (Tryd.strconv_Itoa n (by omega) (by omega) _ htab).mono ?_; rw [HI.out]; rintro e w1 ⟨rfl, j, os, rfl⟩)
      go_ret
      exact ⟨rfl, below_grown _ _ _⟩
    · have hv : wideOf n k = List.replicate (k.toNat - (Lib.decDigits n.toNat).length) 48 ++ Lib.decDigits n.toNat := by
        unfold wideOf
        rw [if_pos]
        simp only [wideOk, Bool.and_eq_true, decide_eq_true_eq]
        omega
      have HV := Lib.hid hv
      clear hv
      go_enter Tryd.func61, Tryd.ntmps61
      go_wp2_with fail
      refine (Tryd.strconv_Itoa n (by omega) (by omega) _ htab).mono ?_
      rw [HI.out]
      rintro e w1 ⟨rfl, j, os, rfl⟩
      go_wp2_with fail
      rw [show (k - ((Lib.decDigits n.toNat).length : Int)) = ((k.toNat - (Lib.decDigits n.toNat).length : Nat) : Int) by omega]
      refine (Tryd.strings_Repeat ⟨#[48]⟩ (k.toNat - (Lib.decDigits n.toNat).length) _ (by omega) (by show 1 * _ ≤ _; omega)).mono ?_
      rw [show (⟨#[48]⟩ : ByteArray).data.toList = [48] from rfl, rep_one]
      rintro e w2 ⟨rfl, hb2⟩
      go_wp2
      go_ret
      refine ⟨congrArg (fun b => Ending.returned (Value.string b)) ?_, (below_grown w j os).trans (hb2.mono (below_grown w j os).size)⟩
      rw [HV.out, ← str_app]
      simp
end Go.Proofs.YtdjlhijaadombaaDoor
