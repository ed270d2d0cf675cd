/- PutBcd: both functions pack a number of up to 38 digits; no conditions. -/
import Derived.Test.YtdjlhijaadombaaDoorTextHex
import Derived.Test.YtdjlhijaadombaaDoorDig
set_option linter.unusedVariables false
namespace Go.Proofs.YtdjlhijaadombaaDoor
open Go.ChangeShapes Go.WideShapes Go.ChangeAt Go.RowKit

def bcdOk (s : ByteArray) : Bool := digs s && decide (s.size ≤ 38)
/-- with a zero ahead if the number of digits is odd -/
def padS (s : ByteArray) : ByteArray := if s.size % 2 = 1 then ⟨#[48]⟩ ++ s else s
def bcd (s : ByteArray) : List Int := if bcdOk s = true then pairs (hv (padS s)) ((padS s).size / 2) else []
set_option maxRecDepth 100000 in
theorem hexv_dig {c : UInt8} (h : 48 ≤ c.toNat ∧ c.toNat ≤ 57) : hexv c = (c.toNat : Int) - 48 := by unfold hexv; rw [if_pos h]
set_option maxRecDepth 100000 in
theorem digs_pad {s : ByteArray} (h : digs s = true) : digs (⟨#[48]⟩ ++ s) = true := by
  have hp := digs_pos h
  simp only [digs, Bool.and_eq_true, decide_eq_true_eq] at h ⊢
  refine ⟨by simp; omega, ?_⟩
  have e : ((⟨#[48]⟩ : ByteArray) ++ s).data.toList = 48 :: s.data.toList := by simp
  rw [e, List.all_cons, h.2]
  rfl
set_option maxRecDepth 100000 in
theorem pad_size (s : ByteArray) : ((⟨#[48]⟩ : ByteArray) ++ s).size = s.size + 1 := by rw [ByteArray.size_append]; show 1 + s.size = _; omega
set_option maxRecDepth 100000 in
theorem digs_hex {s : ByteArray} (h : digs s = true) : s.data.toList.all isHex = true := by
  simp only [digs, Bool.and_eq_true, List.all_eq_true] at h ⊢
  intro c hc
  have := (isDig_iff c).1 (h.2 c hc)
  exact decide_eq_true (by rw [hexv_dig this]; omega)
set_option maxRecDepth 100000 in
theorem bcd_no {s : ByteArray} (h : bcdOk s = false) : bcd s = [] := by simp [bcd, h]
set_option maxRecDepth 100000 in
theorem bcd_yes {s : ByteArray} (h : bcdOk s = true) : bcd s = pairs (hv (padS s)) ((padS s).size / 2) := by simp [bcd, h]
set_option maxRecDepth 100000 in
theorem bcd_len (s : ByteArray) : (bcd s).length ≤ 19 := by
  cases h : bcdOk s
  · rw [bcd_no h]; simp
  · rw [bcd_yes h, pairs_len]
    simp only [bcdOk, Bool.and_eq_true, decide_eq_true_eq] at h
    unfold padS
    split
    · rw [pad_size]; omega
    · omega

set_option maxRecDepth 100000 in
set_option maxHeartbeats 800000 in
theorem implPutBcd_any (s : ByteArray) (w : World) (hs : s.size ≤ 1073741824) :
    Calls Tryd.prog 40 #[.string s] w (resB (bcd s) (bcdOk s) w) := by
  by_cases h38 : 38 < s.size
  · have hno : bcdOk s = false := by
      have : decide (s.size ≤ 38) = false := decide_eq_false (by omega)
      simp [bcdOk, this]
    have HN := Lib.hid hno
    clear hno
    go_enter Tryd.func40, Tryd.ntmps40
    go_wp2
    go_ret2
    rw [bcd_no HN.out, HN.out]
    exact resB_no (Below.refl _ _)
  cases hd : digs s
  · have hno : bcdOk s = false := by simp [bcdOk, hd]
    have HN := Lib.hid hno
    clear hno
    go_enter Tryd.func40, Tryd.ntmps40
    go_wp2_with (go_at_call 34; refine (implDigits_any _ _ (by unfold maxLen; omega)).mono ?_; rintro e w1 ⟨rfl, hb⟩)
    go_ret2
    rw [bcd_no HN.out, HN.out]
    exact resB_no hb
  have hyes : bcdOk s = true := by simp [bcdOk, hd]; omega
  by_cases hodd : s.size % 2 = 1
  · have e1 : ((s.size : Int) % 2 == 1) = true := beq_iff_eq.2 (by omega)
    have hg : hexOk (⟨#[48]⟩ ++ s) = true := hexOk_good (by rw [pad_size]; omega) (digs_hex (digs_pad hd))
    have HR : Hid (resB (bcd s) (bcdOk s) w = resB (unhex (⟨#[48]⟩ ++ s)) (hexOk (⟨#[48]⟩ ++ s)) w) := Lib.hid (by rw [bcd_yes hyes, hyes, unhex_yes hg, hg]; unfold padS; rw [if_pos hodd])
    have hsz : ((⟨#[48]⟩ : ByteArray) ++ s).size ≤ 40 := by rw [pad_size]; omega
    clear hyes hodd hg
    go_enter Tryd.func40, Tryd.ntmps40
    go_wp2_with (go_at_call 34; refine (implDigits_any _ _ (by unfold maxLen; omega)).mono ?_; rintro e w1 ⟨rfl, hb⟩)
    refine (implTextHex_any _ _ (by omega)).mono ?_
    rintro e w2 ⟨u, rfl, hu, hb2⟩
    have HU := Lib.hid hu
    clear hu
    go_wp2
    go_ret2
    rw [HR.out]
    exact ⟨_, rfl, HU.out.mono hb.size, hb.trans (hb2.mono hb.size)⟩
  · have e1 : ((s.size : Int) % 2 == 1) = false := beq_eq_false_iff_ne.2 (by omega)
    have hg : hexOk s = true := hexOk_good (by omega) (digs_hex hd)
    have HR : Hid (resB (bcd s) (bcdOk s) w = resB (unhex s) (hexOk s) w) := Lib.hid (by rw [bcd_yes hyes, hyes, unhex_yes hg, hg]; unfold padS; rw [if_neg hodd])
    clear hyes hodd hg
    go_enter Tryd.func40, Tryd.ntmps40
    go_wp2_with (go_at_call 34; refine (implDigits_any _ _ (by unfold maxLen; omega)).mono ?_; rintro e w1 ⟨rfl, hb⟩)
    refine (implTextHex_any _ _ (by omega)).mono ?_
    rintro e w2 ⟨u, rfl, hu, hb2⟩
    have HU := Lib.hid hu
    clear hu
    go_wp2
    go_ret2
    rw [HR.out]
    exact ⟨_, rfl, HU.out.mono hb.size, hb.trans (hb2.mono hb.size)⟩
end Go.Proofs.YtdjlhijaadombaaDoor
