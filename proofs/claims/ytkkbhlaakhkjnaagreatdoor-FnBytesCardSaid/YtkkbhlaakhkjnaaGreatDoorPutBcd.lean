/- PutBcd: both functions pack a number of up to 38 digits; no conditions. -/
import Derived.Test.YtkkbhlaakhkjnaaGreatDoorTextHex
import Derived.Test.YtkkbhlaakhkjnaaGreatDoorDig
set_option linter.unusedVariables false
namespace Go.Proofs.YtkkbhlaakhkjnaaGreatDoor
open Go.ChangeShapes Go.WideShapes Go.ChangeAt Go.RowKit

def bcdOk (s : ByteArray) : Bool := digs s && decide (s.size ≤ 38)
/-- with a zero ahead if the number of digits is odd -/
def padS (s : ByteArray) : ByteArray := if s.size % 2 = 1 then ⟨#[48]⟩ ++ s else s
def bcd (s : ByteArray) : List Int := if bcdOk s = true then pairs (hv (padS s)) ((padS s).size / 2) else []
set_option maxRecDepth 100000 in
theorem hexv_dig {c : UInt8} (h : 48 ≤ c.toNat ∧ c.toNat ≤ 57) : hexv c = (c.toNat : Int) - 48 := by unfold hexv; rw [if_pos h]
set_option maxRecDepth 100000 in
theorem digs_pad {s : ByteArray} (h : digs s = true) : digs (⟨#[48]⟩ ++ s) = true := by
  have hp := digs_pos h
  simp only [digs, Bool.and_eq_true, decide_eq_true_eq] at h ⊢
  refine ⟨by simp; omega, ?_⟩
  have e : ((⟨#[48]⟩ : ByteArray) ++ s).data.toList = 48 :: s.data.toList := by simp
  rw [e, List.all_cons, h.2]
  rfl
set_option maxRecDepth 100000 in
theorem pad_size (s : ByteArray) : ((⟨#[48]⟩ : ByteArray) ++ s).size = s.size + 1 := by rw [ByteArray.size_append]; show 1 + s.size = _; omega
set_option maxRecDepth 100000 in
theorem digs_hex {s : ByteArray} (h : digs s = true) : s.data.toList.all isHex = true := by
  simp only [digs, Bool.and_eq_true, List.all_eq_true] at h ⊢
  intro c hc
  have := (isDig_iff c).1 (h.2 c hc)
  exact decide_eq_true (by rw [hexv_dig this]; omega)
set_option maxRecDepth 100000 in
theorem bcd_no {s : ByteArray} (h : bcdOk s = false) : bcd s = [] := by simp [bcd, h]
set_option maxRecDepth 100000 in
theorem bcd_yes {s : ByteArray} (h : bcdOk s = true) : bcd s = pairs (hv (padS s)) ((padS s).size / 2) := by simp [bcd, h]
set_option maxRecDepth 100000 in
theorem bcd_len (s : ByteArray) : (bcd s).length ≤ 19 := by
  cases h : bcdOk s
  · rw [bcd_no h]; simp
  · rw [bcd_yes h, pairs_len]
    simp only [bcdOk, Bool.and_eq_true, decide_eq_true_eq] at h
    unfold padS
    split
    · rw [pad_size]; omega
    · omega

set_option maxRecDepth 100000 in
set_option maxHeartbeats 1600000 in
theorem specPutBcd_any (s : ByteArray) (w : World) (hs : s.size ≤ 1073741824) :
    Calls Tryz.prog 33 #[.string s] w (resB (bcd s) (bcdOk s) w) := by
  cases hd : digs s
  · have hno : bcdOk s = false := by simp [bcdOk, hd]
    have HN := Lib.hid hno
    clear hno
    go_enter Tryz.func33, Tryz.ntmps33
    go_wp2_with (go_at_call 63; refine (specDigits_any _ _ (by unfold maxLen; omega)).mono ?_; rintro e w1 ⟨rfl, rfl⟩)
    go_ret2
    rw [bcd_no HN.out, HN.out]
    exact resB_no (Below.refl _ _)
  by_cases h38 : 38 < s.size
  · have hno : bcdOk s = false := by simp [bcdOk, hd]; omega
    have HN := Lib.hid hno
    clear hno
    go_enter Tryz.func33, Tryz.ntmps33
    go_wp2_with (go_at_call 63; refine (specDigits_any _ _ (by unfold maxLen; omega)).mono ?_; rintro e w1 ⟨rfl, rfl⟩)
    go_ret2
    rw [bcd_no HN.out, HN.out]
    exact resB_no (Below.refl _ _)
  have hyes : bcdOk s = true := by simp [bcdOk, hd]; omega
  by_cases hodd : s.size % 2 = 1
  · have e1 : ((s.size : Int) % 2 == 1) = true := beq_iff_eq.2 (by omega)
    have HR : Hid (resB (bcd s) (bcdOk s) w = resB (pairs (hv (⟨#[48]⟩ ++ s)) ((⟨#[48]⟩ ++ s : ByteArray).size / 2)) true w) := Lib.hid (by rw [bcd_yes hyes, hyes]; unfold padS; rw [if_pos hodd])
    have HD := Lib.hid (digs_pad hd)
    have HE : Hid (((⟨#[48]⟩ : ByteArray) ++ s).size % 2 = 0) := Lib.hid (by rw [pad_size]; omega)
    have hsz : ((⟨#[48]⟩ : ByteArray) ++ s).size ≤ 40 := by rw [pad_size]; omega
    clear hyes hodd
    go_enter Tryz.func33, Tryz.ntmps33
    go_wp2_with (go_at_call 63; refine (specDigits_any _ _ (by unfold maxLen; omega)).mono ?_; rintro e w1 ⟨rfl, rfl⟩)
    generalize hTT : (⟨#[48]⟩ : ByteArray) ++ s = t at *
    clear hTT
    go_loopw [4, 5] (fun bv iv wr => ∃ k : Nat, k ≤ t.size / 2 ∧ iv = .int .i64 (2 * (k : Int)) ∧ wr.ownsRow w.heap.size 5 1 bv (pairs (hv t) k).length ((pairs (hv t) k).map (Value.int .u8)) ∧ Below w.heap.size w wr) (fun _ iv _ => t.size - (intOf iv).toNat)
    case atStart =>
      refine ⟨0, Nat.zero_le _, rfl, ⟨rfl, Or.inr ⟨w.heap.size, 0, #[], rfl, Nat.le_refl _, ?_, Nat.le_refl _, Nat.zero_le _, rfl, rfl⟩⟩, (Below.refl _ _).alloc (Nat.le_refl _) _⟩
      show (w.heap.push _)[w.heap.size]? = _
      simp
    case round =>
      obtain ⟨k, hk, rfl, hown, hb⟩ := hrel
      by_cases hlt : k < t.size / 2
      · have hlt1 : 2 * k < t.size := by omega
        have hlt2 : 2 * k + 1 < t.size := by have := HE.out; omega
        have q1 : (2 * (k : Int)).toNat = 2 * k := by omega
        have q2 : (2 * (k : Int) + 1).toNat = 2 * k + 1 := by omega
        have q3 : (2 : Int) * (k : Int) + 1 < (t.size : Int) := by omega
        have q4 : 0 ≤ (k : Int) := by omega
        have q5 : (2 : Int) * (k : Int) < (t.size : Int) := by omega
        have q6 : (0 : Int) ≤ 2 * (k : Int) := by omega
        have q7 : (0 : Int) ≤ 2 * (k : Int) + 1 := by omega
        have q8 : IntKind.i64.wrap (2 * (k : Int) + 1) = 2 * (k : Int) + 1 := IntWalk.i64_in _ (by omega)
        have hx := digs_get HD.out (2 * k) hlt1
        have hy := digs_get HD.out (2 * k + 1) hlt2
        have HT := Lib.hid (pairs_step (hv t) k)
        have HP := Lib.hid (hv_get t (2 * k) hlt1)
        have HQ := Lib.hid (hv_get t (2 * k + 1) hlt2)
        have htl : (pairs (hv t) k).length + 1 ≤ 9223372036854775807 := by rw [pairs_len]; omega
        have htb : ((pairs (hv t) k).length + 1) * 1 ≤ 140737488355328 := by rw [pairs_len]; omega
        have HT : Hid (pairs (hv t) (k + 1) = pairs (hv t) k ++ [(((t[2 * k]'hlt1).toNat : Int) - 48) * 16 + (t[2 * k + 1].toNat : Int) - 48]) := Lib.hid (by
          rw [HT.out, HP.out, HQ.out, hexv_dig hx, hexv_dig hy]; congr 2; omega)
        generalize pairs (hv t) k = M at hown HT htl htb
        have hx0 : (48 : Int) ≤ ((t[2 * k]'hlt1).toNat : Int) := by omega
        have hx1 : ((t[2 * k]'hlt1).toNat : Int) ≤ 57 := by omega
        have hy0 : (48 : Int) ≤ (t[2 * k + 1].toNat : Int) := by omega
        have hy1 : (t[2 * k + 1].toNat : Int) ≤ 57 := by omega
        have r0 : IntKind.i64.wrap ((t[2 * k]'hlt1).toNat : Int) = ((t[2 * k]'hlt1).toNat : Int) := IntWalk.i64_in _ (by omega)
        have r5 : IntKind.i64.wrap (t[2 * k + 1].toNat : Int) = (t[2 * k + 1].toNat : Int) := IntWalk.i64_in _ (by omega)
        have r1 : IntKind.i64.wrap (((t[2 * k]'hlt1).toNat : Int) - 48) = ((t[2 * k]'hlt1).toNat : Int) - 48 := IntWalk.i64_in _ (by omega)
        have r2 : IntKind.i64.wrap ((((t[2 * k]'hlt1).toNat : Int) - 48) * 16) = (((t[2 * k]'hlt1).toNat : Int) - 48) * 16 := IntWalk.i64_in _ (by omega)
        have r3 : IntKind.i64.wrap ((((t[2 * k]'hlt1).toNat : Int) - 48) * 16 + (t[2 * k + 1].toNat : Int)) = (((t[2 * k]'hlt1).toNat : Int) - 48) * 16 + (t[2 * k + 1].toNat : Int) := IntWalk.i64_in _ (by omega)
        have r4 : IntKind.i64.wrap ((((t[2 * k]'hlt1).toNat : Int) - 48) * 16 + (t[2 * k + 1].toNat : Int) - 48) = (((t[2 * k]'hlt1).toNat : Int) - 48) * 16 + (t[2 * k + 1].toNat : Int) - 48 := IntWalk.i64_in _ (by omega)
        have r6 : IntKind.u8.wrap ((((t[2 * k]'hlt1).toNat : Int) - 48) * 16 + (t[2 * k + 1].toNat : Int) - 48) = (((t[2 * k]'hlt1).toNat : Int) - 48) * 16 + (t[2 * k + 1].toNat : Int) - 48 := IntWalk.u8_in _ (by omega)
        clear hx hy
        go_wp2
        go_region_law (refine app_one_step (Value.int .u8) (int_one .u8) 26 5 (.int .u8 0) 1 Tryz.underlying26 infoU8 rfl _ _ rfl (by rfl) w wr _ M _ (by rfl) (by rfl) hown hb htl htb ?_; intro v' w1 hown' hb')
        all_goals
          clear hown hb r0 r1 r2 r3 r4 r5 r6 q8
          go_wp2
          go_roundw
          case rel => exact ⟨k + 1, by omega, by go_num, by rw [HT.out]; exact hown', hb'⟩
          case measure => simp [intOf] <;> omega
      · obtain rfl : k = t.size / 2 := by omega
        have HN := Lib.hid hown
        have q3 : ¬ (2 : Int) * ((t.size / 2 : Nat) : Int) < (t.size : Int) := by have := HE.out; omega
        clear hown
        go_wp2
        go_ret2
        rw [HR.out]
        exact ⟨_, rfl, HN.out, hb⟩
  · have e1 : ((s.size : Int) % 2 == 1) = false := beq_eq_false_iff_ne.2 (by omega)
    have HR : Hid (resB (bcd s) (bcdOk s) w = resB (pairs (hv s) (s.size / 2)) true w) := Lib.hid (by rw [bcd_yes hyes, hyes]; unfold padS; rw [if_neg hodd])
    have HD := Lib.hid hd
    have HE : Hid (s.size % 2 = 0) := Lib.hid (by omega)
    have hsz : s.size ≤ 40 := by omega
    clear hyes hodd
    go_enter Tryz.func33, Tryz.ntmps33
    go_wp2_with (go_at_call 63; refine (specDigits_any _ _ (by unfold maxLen; omega)).mono ?_; rintro e w1 ⟨rfl, rfl⟩)
    clear hd
    obtain ⟨t, rfl⟩ : ∃ t, s = t := ⟨s, rfl⟩
    go_loopw [4, 5] (fun bv iv wr => ∃ k : Nat, k ≤ s.size / 2 ∧ iv = .int .i64 (2 * (k : Int)) ∧ wr.ownsRow w.heap.size 5 1 bv (pairs (hv s) k).length ((pairs (hv s) k).map (Value.int .u8)) ∧ Below w.heap.size w wr) (fun _ iv _ => s.size - (intOf iv).toNat)
    case atStart =>
      refine ⟨0, Nat.zero_le _, rfl, ⟨rfl, Or.inr ⟨w.heap.size, 0, #[], rfl, Nat.le_refl _, ?_, Nat.le_refl _, Nat.zero_le _, rfl, rfl⟩⟩, (Below.refl _ _).alloc (Nat.le_refl _) _⟩
      show (w.heap.push _)[w.heap.size]? = _
      simp
    case round =>
      obtain ⟨k, hk, rfl, hown, hb⟩ := hrel
      by_cases hlt : k < s.size / 2
      · have hlt1 : 2 * k < s.size := by omega
        have hlt2 : 2 * k + 1 < s.size := by have := HE.out; omega
        have q1 : (2 * (k : Int)).toNat = 2 * k := by omega
        have q2 : (2 * (k : Int) + 1).toNat = 2 * k + 1 := by omega
        have q3 : (2 : Int) * (k : Int) + 1 < (s.size : Int) := by omega
        have q4 : 0 ≤ (k : Int) := by omega
        have q5 : (2 : Int) * (k : Int) < (s.size : Int) := by omega
        have q6 : (0 : Int) ≤ 2 * (k : Int) := by omega
        have q7 : (0 : Int) ≤ 2 * (k : Int) + 1 := by omega
        have q8 : IntKind.i64.wrap (2 * (k : Int) + 1) = 2 * (k : Int) + 1 := IntWalk.i64_in _ (by omega)
        have hx := digs_get HD.out (2 * k) hlt1
        have hy := digs_get HD.out (2 * k + 1) hlt2
        have HT := Lib.hid (pairs_step (hv s) k)
        have HP := Lib.hid (hv_get s (2 * k) hlt1)
        have HQ := Lib.hid (hv_get s (2 * k + 1) hlt2)
        have htl : (pairs (hv s) k).length + 1 ≤ 9223372036854775807 := by rw [pairs_len]; omega
        have htb : ((pairs (hv s) k).length + 1) * 1 ≤ 140737488355328 := by rw [pairs_len]; omega
        have HT : Hid (pairs (hv s) (k + 1) = pairs (hv s) k ++ [(((s[2 * k]'hlt1).toNat : Int) - 48) * 16 + (s[2 * k + 1].toNat : Int) - 48]) := Lib.hid (by
          rw [HT.out, HP.out, HQ.out, hexv_dig hx, hexv_dig hy]; congr 2; omega)
        generalize pairs (hv s) k = M at hown HT htl htb
        have hx0 : (48 : Int) ≤ ((s[2 * k]'hlt1).toNat : Int) := by omega
        have hx1 : ((s[2 * k]'hlt1).toNat : Int) ≤ 57 := by omega
        have hy0 : (48 : Int) ≤ (s[2 * k + 1].toNat : Int) := by omega
        have hy1 : (s[2 * k + 1].toNat : Int) ≤ 57 := by omega
        have r0 : IntKind.i64.wrap ((s[2 * k]'hlt1).toNat : Int) = ((s[2 * k]'hlt1).toNat : Int) := IntWalk.i64_in _ (by omega)
        have r5 : IntKind.i64.wrap (s[2 * k + 1].toNat : Int) = (s[2 * k + 1].toNat : Int) := IntWalk.i64_in _ (by omega)
        have r1 : IntKind.i64.wrap (((s[2 * k]'hlt1).toNat : Int) - 48) = ((s[2 * k]'hlt1).toNat : Int) - 48 := IntWalk.i64_in _ (by omega)
        have r2 : IntKind.i64.wrap ((((s[2 * k]'hlt1).toNat : Int) - 48) * 16) = (((s[2 * k]'hlt1).toNat : Int) - 48) * 16 := IntWalk.i64_in _ (by omega)
        have r3 : IntKind.i64.wrap ((((s[2 * k]'hlt1).toNat : Int) - 48) * 16 + (s[2 * k + 1].toNat : Int)) = (((s[2 * k]'hlt1).toNat : Int) - 48) * 16 + (s[2 * k + 1].toNat : Int) := IntWalk.i64_in _ (by omega)
        have r4 : IntKind.i64.wrap ((((s[2 * k]'hlt1).toNat : Int) - 48) * 16 + (s[2 * k + 1].toNat : Int) - 48) = (((s[2 * k]'hlt1).toNat : Int) - 48) * 16 + (s[2 * k + 1].toNat : Int) - 48 := IntWalk.i64_in _ (by omega)
        have r6 : IntKind.u8.wrap ((((s[2 * k]'hlt1).toNat : Int) - 48) * 16 + (s[2 * k + 1].toNat : Int) - 48) = (((s[2 * k]'hlt1).toNat : Int) - 48) * 16 + (s[2 * k + 1].toNat : Int) - 48 := IntWalk.u8_in _ (by omega)
        clear hx hy
        go_wp2
        go_region_law (refine app_one_step (Value.int .u8) (int_one .u8) 26 5 (.int .u8 0) 1 Tryz.underlying26 infoU8 rfl _ _ rfl (by rfl) w wr _ M _ (by rfl) (by rfl) hown hb htl htb ?_; intro v' w1 hown' hb')
        all_goals
          clear hown hb r0 r1 r2 r3 r4 r5 r6 q8
          go_wp2
          go_roundw
          case rel => exact ⟨k + 1, by omega, by go_num, by rw [HT.out]; exact hown', hb'⟩
          case measure => simp [intOf] <;> omega
      · obtain rfl : k = s.size / 2 := by omega
        have HN := Lib.hid hown
        have q3 : ¬ (2 : Int) * ((s.size / 2 : Nat) : Int) < (s.size : Int) := by have := HE.out; omega
        clear hown
        go_wp2
        go_ret2
        rw [HR.out]
        exact ⟨_, rfl, HN.out, hb⟩

set_option maxRecDepth 100000 in
set_option maxHeartbeats 800000 in
theorem implPutBcd_any (s : ByteArray) (w : World) (hs : s.size ≤ 1073741824) :
    Calls Tryz.prog 37 #[.string s] w (resB (bcd s) (bcdOk s) w) := by
  by_cases h38 : 38 < s.size
  · have hno : bcdOk s = false := by
      have : decide (s.size ≤ 38) = false := decide_eq_false (by omega)
      simp [bcdOk, this]
    have HN := Lib.hid hno
    clear hno
    go_enter Tryz.func37, Tryz.ntmps37
    go_wp2
    go_ret2
    rw [bcd_no HN.out, HN.out]
    exact resB_no (Below.refl _ _)
  cases hd : digs s
  · have hno : bcdOk s = false := by simp [bcdOk, hd]
    have HN := Lib.hid hno
    clear hno
    go_enter Tryz.func37, Tryz.ntmps37
    go_wp2_with (go_at_call 69; refine (implDigits_any _ _ (by unfold maxLen; omega)).mono ?_; rintro e w1 ⟨rfl, hb⟩)
    go_ret2
    rw [bcd_no HN.out, HN.out]
    exact resB_no hb
  have hyes : bcdOk s = true := by simp [bcdOk, hd]; omega
  by_cases hodd : s.size % 2 = 1
  · have e1 : ((s.size : Int) % 2 == 1) = true := beq_iff_eq.2 (by omega)
    have hg : hexOk (⟨#[48]⟩ ++ s) = true := hexOk_good (by rw [pad_size]; omega) (digs_hex (digs_pad hd))
    have HR : Hid (resB (bcd s) (bcdOk s) w = resB (unhex (⟨#[48]⟩ ++ s)) (hexOk (⟨#[48]⟩ ++ s)) w) := Lib.hid (by rw [bcd_yes hyes, hyes, unhex_yes hg, hg]; unfold padS; rw [if_pos hodd])
    have hsz : ((⟨#[48]⟩ : ByteArray) ++ s).size ≤ 40 := by rw [pad_size]; omega
    clear hyes hodd hg
    go_enter Tryz.func37, Tryz.ntmps37
    go_wp2_with (go_at_call 69; refine (implDigits_any _ _ (by unfold maxLen; omega)).mono ?_; rintro e w1 ⟨rfl, hb⟩)
    refine (implTextHex_any _ _ (by omega)).mono ?_
    rintro e w2 ⟨u, rfl, hu, hb2⟩
    have HU := Lib.hid hu
    clear hu
    go_wp2
    go_ret2
    rw [HR.out]
    exact ⟨_, rfl, HU.out.mono hb.size, hb.trans (hb2.mono hb.size)⟩
  · have e1 : ((s.size : Int) % 2 == 1) = false := beq_eq_false_iff_ne.2 (by omega)
    have hg : hexOk s = true := hexOk_good (by omega) (digs_hex hd)
    have HR : Hid (resB (bcd s) (bcdOk s) w = resB (unhex s) (hexOk s) w) := Lib.hid (by rw [bcd_yes hyes, hyes, unhex_yes hg, hg]; unfold padS; rw [if_neg hodd])
    clear hyes hodd hg
    go_enter Tryz.func37, Tryz.ntmps37
    go_wp2_with (go_at_call 69; refine (implDigits_any _ _ (by unfold maxLen; omega)).mono ?_; rintro e w1 ⟨rfl, hb⟩)
    refine (implTextHex_any _ _ (by omega)).mono ?_
    rintro e w2 ⟨u, rfl, hu, hb2⟩
    have HU := Lib.hid hu
    clear hu
    go_wp2
    go_ret2
    rw [HR.out]
    exact ⟨_, rfl, HU.out.mono hb.size, hb.trans (hb2.mono hb.size)⟩
end Go.Proofs.YtkkbhlaakhkjnaaGreatDoor
