/- TextNum: both functions return the money that a text without a leading zero denotes; the program's error variable holds an error. -/
import Derived.Test.YtbaefbkjobpnnaaDoorScan
import Derived.Test.YtbaefbkjobpnnaaDoorDigS
import Derived.Test.YtbaefbkjobpnnaaDoorNum
import Derived.Test.YtbaefbkjobpnnaaDoorTxt
set_option linter.unusedVariables false
namespace Go.Proofs.YtbaefbkjobpnnaaDoor
open Go.ChangeShapes Go.WideShapes Go.ChangeAt Go.RowKit

theorem txt_bad {s : ByteArray} (h : scanOk s = false) : txtOk s = false := by simp [txtOk, h]
theorem txt_val_no {s : ByteArray} (h : txtOk s = false) : txtVal s = 0 := by simp [txtVal, h]

set_option maxRecDepth 100000 in
set_option maxHeartbeats 800000 in
theorem specTextNum_any (s : ByteArray) (w : World) (hs : s.size ≤ maxLen) :
    Calls Tryd.prog 21 #[.string s] w fun e w' => e = .returned (.tuple #[.int .i64 (txtVal s), .bool (txtOk s)]) ∧ Below w.heap.size w w' := by
  cases hd : digs s
  · have hn := txt_bad (scan_bad s hd)
    rw [hn, txt_val_no hn]
    clear hn
    go_enter Tryd.func21, Tryd.ntmps21
    go_wp2_with (go_at_call 44; refine (specDigits_any _ _ hs).mono ?_; rintro e w1 ⟨rfl, rfl⟩)
    go_ret2
    exact ⟨rfl, Below.refl _ _⟩
  by_cases h19 : (19 : Int) < (s.size : Int)
  · have hn : txtOk s = false := by
      cases h : txtOk s
      · rfl
      · have := (txt_short h).1; omega
    rw [hn, txt_val_no hn]
    clear hn
    go_enter Tryd.func21, Tryd.ntmps21
    go_wp2_with (go_at_call 44; refine (specDigits_any _ _ hs).mono ?_; rintro e w1 ⟨rfl, rfl⟩)
    go_ret2
    exact ⟨rfl, Below.refl _ _⟩
  have hD := Lib.hid hd
  go_enter Tryd.func21, Tryd.ntmps21
  go_wp2_with (go_at_call 44; refine (specDigits_any _ _ hs).mono ?_; rintro e w1 ⟨rfl, rfl⟩)
  clear hd
  go_loop [2, 3, 4, 5] (fun _ _ nv iv => ∃ k : Nat, k ≤ s.size ∧ iv = .int .i64 k ∧ nv = .int .i64 (decOf (s.data.toList.take k)) ∧ decOf (s.data.toList.take k) ≤ 4611686018427387904) (fun _ _ _ iv => s.size - (intOf iv).toNat)
  case atStart => exact ⟨0, Nat.zero_le _, rfl, rfl, by simp [decOf]⟩
  case round =>
    obtain ⟨k, hk, rfl, rfl, hn1⟩ := hrel
    have hn0 : 0 ≤ decOf (s.data.toList.take k) := dec_pos _ (all_take _ _ (digs_all hD.out))
    by_cases hlt : k < s.size
    · have hg := digs_get hD.out k hlt
      have hg1 : (48 : Int) ≤ (s[k].toNat : Int) := by omega
      have hg2 : (s[k].toNat : Int) ≤ 57 := by omega
      have hsn := Lib.hid (dec_snoc s k hlt)
      have hov := Lib.hid (scan_over s k hlt)
      clear hg
      by_cases hover : (4611686018427387904 - ((s[k].toNat : Int) - 48)) / 10 < decOf (s.data.toList.take k)
      · go_wp2
        go_ret2
        have hn := txt_bad (hov.out (by rw [hsn.out]; omega))
        exact ⟨ret_ok (txt_val_no hn).symm hn.symm, Below.refl _ _⟩
      · go_wp2
        go_round
        case rel => exact ⟨k + 1, by omega, by go_num, val_int (by rw [hsn.out]; omega), by rw [hsn.out]; omega⟩
        case measure => simp [intOf] <;> omega
    · have hend := congrArg decOf (take_end s k hlt)
      have hsc : scanOk s = true := by
        simp only [scanOk, hD.out, Bool.true_and]
        rw [hend] at hn1
        exact decide_eq_true hn1
      rw [hend] at hn0 hn1 ⊢
      have hm : isMon (decOf s.data.toList) = true := by simp [isMon, hn0, hn1]
      have hnum : numOf (decOf s.data.toList) = Lib.decDigits (decOf s.data.toList).toNat := by simp [numOf, hm]
      generalize hq : decOf s.data.toList = q at hn0 hn1 hm hnum ⊢
      have HQ := Lib.hid hq
      have HN := Lib.hid hnum
      have HS := Lib.hid hsc
      clear hq hnum hsc hend hm
      go_wp2_with (go_at_call 20; refine (specNum_any _ _).mono ?_; rintro e w1 ⟨rfl, hb⟩)
      · have hne : (!(numOf q == s.toList)) = true := by assumption
        have ht : txtOk s = false := by
          rw [txt_eq hD.out HS.out, HQ.out, ← HN.out, ← ByteArray.toList_eq]
          simpa using hne
        go_ret2
        exact ⟨ret_ok (txt_val_no ht).symm ht.symm, hb⟩
      · have hne : (!(numOf q == s.toList)) = false := by assumption
        have ht : txtOk s = true := by
          rw [txt_eq hD.out HS.out, HQ.out, ← HN.out, ← ByteArray.toList_eq]
          simpa using hne
        have hv : txtVal s = q := by rw [← HQ.out]; simp [txtVal, ht]
        go_ret2
        exact ⟨ret_ok hv.symm ht.symm, hb⟩

theorem txt_lead {s : ByteArray} (h : lead s.data.toList = true) : txtOk s = false := by simp [txtOk, h]
theorem txt_good {s : ByteArray} (h : scanOk s = true) (hl : lead s.data.toList = false) : txtOk s = true := by simp [txtOk, h, hl]

set_option maxHeartbeats 400000 in
/-- without a leading zero -/
theorem implTextNum_plain (s : ByteArray) (w : World) (hs : s.size ≤ maxLen) (p : Addr) (hg : 1 < w.heap.size) (hc : w.cell? ⟨1, 0, none⟩ = some (.iface 172 (.pointer (some p))))
    (hl : lead s.data.toList = false) (h1 : ¬ 1 < s.size ∨ ∃ h : 1 < s.size, ((s[0].toNat : Int) == 48) = false) :
    Calls Tryd.prog 15 #[.string s] w fun e w' => e = .returned (.tuple #[.int .i64 (txtVal s), .bool (txtOk s)]) ∧ Below w.heap.size w w' := by
  unfold maxLen at hs
  cases hsc : scanOk s
  · have hn := txt_bad hsc
    rw [hn, txt_val_no hn]
    clear hn
    rcases h1 with h1 | ⟨h1, h48⟩
    all_goals
      go_enter Tryd.func15, Tryd.ntmps15
      go_wp2_with fail
      refine (scan_any s _ p hg hc).mono ?_
      rintro e w1 ⟨hse, hb⟩
      unfold scanEnd at hse
      rw [if_neg (by simp [hsc])] at hse
      obtain ⟨t, v, rfl⟩ := hse
      go_wp2
      go_quiet (fail)
      go_wp2
      go_ret2
      exact ⟨rfl, below_drewN hb _⟩
  · have hn := txt_good hsc hl
    have hv : txtVal s = decOf s.data.toList := by simp [txtVal, hn]
    rw [hn, hv]
    clear hn hv
    rcases h1 with h1 | ⟨h1, h48⟩
    all_goals
      go_enter Tryd.func15, Tryd.ntmps15
      go_wp2_with fail
      refine (scan_any s _ p hg hc).mono ?_
      rintro e w1 ⟨hse, hb⟩
      unfold scanEnd at hse
      rw [if_pos hsc] at hse
      subst hse
      go_wp2
      go_quiet (fail)
      go_wp2
      go_ret2
      exact ⟨rfl, below_drewN hb _⟩

theorem implTextNum_any (s : ByteArray) (w : World) (hs : s.size ≤ maxLen) (p : Addr) (hg : 1 < w.heap.size) (hc : w.cell? ⟨1, 0, none⟩ = some (.iface 172 (.pointer (some p)))) :
    Calls Tryd.prog 15 #[.string s] w fun e w' => e = .returned (.tuple #[.int .i64 (txtVal s), .bool (txtOk s)]) ∧ Below w.heap.size w w' := by
  by_cases h1 : 1 < s.size
  · cases h0 : (s[0] == 48)
    · refine implTextNum_plain s w hs p hg hc ((lead_get h1).trans h0) (Or.inr ⟨h1, ?_⟩)
      have hne : s[0] ≠ 48 := by simpa using h0
      refine beq_eq_false_iff_ne.2 fun e => hne (UInt8.toNat_inj.1 ?_)
      show s[0].toNat = 48
      omega
    · have hn := txt_lead ((lead_get h1).trans h0)
      have h48 : (s[0].toNat : Int) = 48 := by
        have : s[0] = 48 := by simpa using h0
        rw [this]; rfl
      have H48 : ((s[0].toNat : Int) == 48) = true := by rw [h48]; rfl
      rw [hn, txt_val_no hn]
      clear hn h48 h0
      unfold maxLen at hs
      go_enter Tryd.func15, Tryd.ntmps15
      go_wp2
      go_ret2
      exact ⟨rfl, Below.refl _ _⟩
  · exact implTextNum_plain s w hs p hg hc (lead_short h1) (Or.inl h1)
end Go.Proofs.YtbaefbkjobpnnaaDoor
