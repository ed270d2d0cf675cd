/- Printable: both functions tell whether all bytes lie from 32 to 126; no conditions. -/
import Derived.Test.YtmojpiofdfmdgabGreatDoorMrg3
import Derived.Test.YtmojpiofdfmdgabGreatDoorMrg2
import Derived.IntWalk
import Derived.BigQuiet
import Derived.Deep.QuietTactic
import Derived.Test.YtmojpiofdfmdgabGreatDoorMrg1
set_option linter.unusedVariables false
namespace Go.Proofs.YtmojpiofdfmdgabGreatDoor
open Go.ChangeShapes Go.WideShapes Go.ChangeAt Go.RowKit

def prn (c : UInt8) : Bool := decide (32 ≤ c.toNat) && decide (c.toNat ≤ 126)
def prnS (s : ByteArray) : Bool := s.data.toList.all prn
set_option maxRecDepth 100000 in
theorem prn_yes {c : UInt8} (h0 : ¬ (c.toNat : Int) < 32) (h1 : ¬ 126 < (c.toNat : Int)) : prn c = true := by simp [prn]; omega
set_option maxRecDepth 100000 in
theorem prn_no {c : UInt8} (h : (c.toNat : Int) < 32 ∨ 126 < (c.toNat : Int)) : prn c = false := by
  cases hp : prn c
  · rfl
  · simp [prn] at hp; omega

set_option maxRecDepth 100000 in
theorem specPrintable_any (s : ByteArray) (w : World) (hs : s.size ≤ maxLen) :
    Calls Tryz.prog 65 #[.string s] w fun e w' => e = .returned (.bool (prnS s)) ∧ w = w' := by
  unfold maxLen at hs
  go_enter Tryz.func65, Tryz.ntmps65
  go_wp2
  go_loop [3] (fun i => ∃ k : Nat, k ≤ s.size ∧ i = .int .i64 k ∧ (s.data.toList.take k).all prn = true) (fun i => s.size - (intOf i).toNat)
  case atStart => exact ⟨0, Nat.zero_le _, rfl, rfl⟩
  case round =>
    obtain ⟨k, hk, rfl, ha0⟩ := hrel
    have ha := Lib.hid ha0
    clear ha0
    by_cases hlt : k < s.size
    · go_wp2
      · go_ret
        exact ⟨ret_bool (allP_no prn s k hlt (prn_no (by omega))).symm, rfl⟩
      · go_round
        case rel => exact ⟨k + 1, by omega, by go_num, allP_one prn s k hlt ha.out (prn_yes (by omega) (by omega))⟩
        case measure => simp [intOf] <;> omega
      · go_ret
        exact ⟨ret_bool (allP_no prn s k hlt (prn_no (by omega))).symm, rfl⟩
    · go_wp2
      go_ret
      exact ⟨ret_bool (allP_end prn s k hlt ha.out).symm, rfl⟩

set_option maxRecDepth 100000 in
theorem implPrintable_any (s : ByteArray) (w : World) (hs : s.size ≤ maxLen) :
    Calls Tryz.prog 81 #[.string s] w fun e w' => e = .returned (.bool (prnS s)) ∧ w = w' := by
  unfold maxLen at hs
  go_enter Tryz.func81, Tryz.ntmps81
  go_wp2
  go_loop [3, 6] (fun _ i => ∃ k : Nat, k ≤ s.size ∧ i = .int .i64 k ∧ (s.data.toList.take k).all prn = true) (fun _ i => s.size - (intOf i).toNat)
  case atStart => exact ⟨0, Nat.zero_le _, rfl, rfl⟩
  case round =>
    obtain ⟨k, hk, rfl, ha0⟩ := hrel
    have ha := Lib.hid ha0
    clear ha0
    by_cases hlt : k < s.size
    · go_wp2
      · go_ret
        exact ⟨ret_bool (allP_no prn s k hlt (prn_no (by omega))).symm, rfl⟩
      · go_round
        case rel => exact ⟨k + 1, by omega, by go_num, allP_one prn s k hlt ha.out (prn_yes (by omega) (by omega))⟩
        case measure => simp [intOf] <;> omega
      · go_ret
        exact ⟨ret_bool (allP_no prn s k hlt (prn_no (by omega))).symm, rfl⟩
    · go_wp2
      go_ret
      exact ⟨ret_bool (allP_end prn s k hlt ha.out).symm, rfl⟩
end Go.Proofs.YtmojpiofdfmdgabGreatDoor
set_option linter.unusedVariables false
namespace Go.Proofs.YtmojpiofdfmdgabGreatDoor
open Go.ChangeShapes Go.WideShapes Go.ChangeAt Go.RowKit

/-- is s a content of this kind and size? -/
def okBy (kd sz : Int) (s : ByteArray) : Bool :=
  if kd = 1 then decide ((s.size : Int) = sz) && digs s else if kd = 2 then decide ((s.size : Int) = sz) && prnS s else if kd = 3 then decide ((s.size : Int) ≤ sz) && digs s else if kd = 4 ∨ kd = 5 then (decide (0 < s.size) && decide ((s.size : Int) ≤ sz)) && prnS s else false
def fOk (no : Int) (s : ByteArray) : Bool := okBy (fKind no) (fSize no) s
set_option maxRecDepth 100000 in
theorem kind_cases (no : Int) : fKind no = 0 ∨ fKind no = 1 ∨ fKind no = 2 ∨ fKind no = 3 ∨ fKind no = 4 ∨ fKind no = 5 := by
  unfold fKind
  repeat' split
  all_goals omega
set_option maxRecDepth 100000 in
theorem fOk_no {no : Int} {s : ByteArray} (h : fKind no = 0) : fOk no s = false := by simp [fOk, okBy, h]
set_option maxRecDepth 100000 in
theorem size_i64 (s : ByteArray) (hs : s.size ≤ maxLen) : (s.size : Int) ≤ 9223372036854775807 := by unfold maxLen at hs; omega


set_option maxRecDepth 100000 in
set_option maxHeartbeats 2000000 in
theorem allows_any (no sz kd : Int) (p g : Value) (s : ByteArray) (w : World) (hs : s.size ≤ maxLen) (hk : kd = 0 ∨ kd = 1 ∨ kd = 2 ∨ kd = 3 ∨ kd = 4 ∨ kd = 5) :
    Calls Tryz.prog 70 #[.agg #[.int .i64 no, .int .i64 sz, .int .i64 kd, p, g], .string s] w fun e w' => e = .returned (.bool (okBy kd sz s)) ∧ Below w.heap.size w w' := by
  have hsz := size_i64 s hs
  rcases hk with rfl | rfl | rfl | rfl | rfl | rfl
  · have hr : okBy 0 sz s = false := by simp [okBy]
    rw [hr]
    clear hr
    go_enter Tryz.func70, Tryz.ntmps70
    go_wp2
    go_ret
    exact ⟨rfl, (below_new (Below.refl _ _) (Nat.le_refl _))⟩
  · by_cases ht : (s.size : Int) = sz
    · have hr : okBy 1 sz s = digs s := by simp [okBy, ht]
      rw [hr]
      clear hr
      have ht' : ((s.size : Int) == sz) = true := by simpa using ht
      have HS := Lib.hid hs
      clear ht hs
      go_enter Tryz.func70, Tryz.ntmps70
      go_wp2_with fail
      refine (implDigits_any s _ HS.out).mono ?_
      rintro e w1 ⟨rfl, hb⟩
      go_wp2
      go_ret
      exact ⟨rfl, (below_new (Below.refl _ _) (Nat.le_refl _)).trans (hb.mono (by simp))⟩
    · have hr : okBy 1 sz s = false := by simp [okBy, ht]
      rw [hr]
      clear hr
      have ht' : ((s.size : Int) == sz) = false := by simpa using ht
      clear ht
      go_enter Tryz.func70, Tryz.ntmps70
      go_wp2
      go_ret
      exact ⟨rfl, (below_new (Below.refl _ _) (Nat.le_refl _))⟩
  · by_cases ht : (s.size : Int) = sz
    · have hr : okBy 2 sz s = prnS s := by simp [okBy, ht]
      rw [hr]
      clear hr
      have ht' : ((s.size : Int) == sz) = true := by simpa using ht
      have HS := Lib.hid hs
      clear ht hs
      go_enter Tryz.func70, Tryz.ntmps70
      go_wp2_with fail
      refine (implPrintable_any s _ HS.out).mono ?_
      rintro e w1 ⟨rfl, rfl⟩
      go_wp2
      go_ret
      exact ⟨rfl, (below_new (Below.refl _ _) (Nat.le_refl _))⟩
    · have hr : okBy 2 sz s = false := by simp [okBy, ht]
      rw [hr]
      clear hr
      have ht' : ((s.size : Int) == sz) = false := by simpa using ht
      clear ht
      go_enter Tryz.func70, Tryz.ntmps70
      go_wp2
      go_ret
      exact ⟨rfl, (below_new (Below.refl _ _) (Nat.le_refl _))⟩
  · by_cases ht : (s.size : Int) ≤ sz
    · have hr : okBy 3 sz s = digs s := by simp [okBy, ht]
      rw [hr]
      clear hr
      have ht' : decide ((s.size : Int) ≤ sz) = true := by simpa using ht
      have HS := Lib.hid hs
      clear ht hs
      go_enter Tryz.func70, Tryz.ntmps70
      go_wp2_with fail
      refine (implDigits_any s _ HS.out).mono ?_
      rintro e w1 ⟨rfl, hb⟩
      go_wp2
      go_ret
      exact ⟨rfl, (below_new (Below.refl _ _) (Nat.le_refl _)).trans (hb.mono (by simp))⟩
    · have hr : okBy 3 sz s = false := by simp [okBy, ht]
      rw [hr]
      clear hr
      have ht' : decide ((s.size : Int) ≤ sz) = false := by simpa using ht
      clear ht
      go_enter Tryz.func70, Tryz.ntmps70
      go_wp2
      go_ret
      exact ⟨rfl, (below_new (Below.refl _ _) (Nat.le_refl _))⟩
  · by_cases h0 : s.toList = []
    · have hr : okBy 4 sz s = false := by
        have : s.size = 0 := by rw [ByteArray.toList_eq] at h0; have := congrArg List.length h0; simpa using this
        simp [okBy, this]
      rw [hr]
      clear hr
      have h0' : s.toList.isEmpty = true := by simp [h0]
      go_enter Tryz.func70, Tryz.ntmps70
      go_wp2
      go_ret
      exact ⟨rfl, (below_new (Below.refl _ _) (Nat.le_refl _))⟩
    · have hp : 0 < s.size := by
        rcases Nat.eq_zero_or_pos s.size with h | h
        · exact absurd (by rw [ByteArray.toList_eq]; exact List.eq_nil_of_length_eq_zero (by simpa using h)) h0
        · exact h
      have h0' : s.toList.isEmpty = false := by simpa using h0
      by_cases ht : (s.size : Int) ≤ sz
      · have hr : okBy 4 sz s = prnS s := by simp [okBy, ht, hp]
        rw [hr]
        clear hr
        have ht' : decide ((s.size : Int) ≤ sz) = true := by simpa using ht
        have HS := Lib.hid hs
        clear ht hs h0
        go_enter Tryz.func70, Tryz.ntmps70
        go_wp2_with fail
        refine (implPrintable_any s _ HS.out).mono ?_
        rintro e w1 ⟨rfl, rfl⟩
        go_wp2
        go_ret
        exact ⟨rfl, (below_new (Below.refl _ _) (Nat.le_refl _))⟩
      · have hr : okBy 4 sz s = false := by simp [okBy, ht]
        rw [hr]
        clear hr
        have ht' : decide ((s.size : Int) ≤ sz) = false := by simpa using ht
        clear ht h0
        go_enter Tryz.func70, Tryz.ntmps70
        go_wp2
        go_ret
        exact ⟨rfl, (below_new (Below.refl _ _) (Nat.le_refl _))⟩
  · by_cases h0 : s.toList = []
    · have hr : okBy 5 sz s = false := by
        have : s.size = 0 := by rw [ByteArray.toList_eq] at h0; have := congrArg List.length h0; simpa using this
        simp [okBy, this]
      rw [hr]
      clear hr
      have h0' : s.toList.isEmpty = true := by simp [h0]
      go_enter Tryz.func70, Tryz.ntmps70
      go_wp2
      go_ret
      exact ⟨rfl, (below_new (Below.refl _ _) (Nat.le_refl _))⟩
    · have hp : 0 < s.size := by
        rcases Nat.eq_zero_or_pos s.size with h | h
        · exact absurd (by rw [ByteArray.toList_eq]; exact List.eq_nil_of_length_eq_zero (by simpa using h)) h0
        · exact h
      have h0' : s.toList.isEmpty = false := by simpa using h0
      by_cases ht : (s.size : Int) ≤ sz
      · have hr : okBy 5 sz s = prnS s := by simp [okBy, ht, hp]
        rw [hr]
        clear hr
        have ht' : decide ((s.size : Int) ≤ sz) = true := by simpa using ht
        have HS := Lib.hid hs
        clear ht hs h0
        go_enter Tryz.func70, Tryz.ntmps70
        go_wp2_with fail
        refine (implPrintable_any s _ HS.out).mono ?_
        rintro e w1 ⟨rfl, rfl⟩
        go_wp2
        go_ret
        exact ⟨rfl, (below_new (Below.refl _ _) (Nat.le_refl _))⟩
      · have hr : okBy 5 sz s = false := by simp [okBy, ht]
        rw [hr]
        clear hr
        have ht' : decide ((s.size : Int) ≤ sz) = false := by simpa using ht
        clear ht h0
        go_enter Tryz.func70, Tryz.ntmps70
        go_wp2
        go_ret
        exact ⟨rfl, (below_new (Below.refl _ _) (Nat.le_refl _))⟩

set_option maxRecDepth 100000 in
theorem rowV_cells (no : Int) : ∃ (n' sz : Int) (p g : Value), rowV no = .agg #[.int .i64 n', .int .i64 sz, .int .i64 (fKind no), p, g] ∧ (fKind no ≠ 0 → n' = no ∧ sz = fSize no ∧ p = .func (.func (putId (fKind no))) #[] #[] ∧ g = .func (.func (getId (fKind no))) #[] #[]) ∧ (fKind no = 0 → sz = 0 ∧ p = .nilFunc ∧ g = .nilFunc) ∧ p.oneCell' = true ∧ g.oneCell' = true := by
  by_cases h : fKind no = 0
  · exact ⟨0, 0, .nilFunc, .nilFunc, by rw [rowV, if_pos h, h], fun h' => absurd h h', fun _ => ⟨rfl, rfl, rfl⟩, rfl, rfl⟩
  · exact ⟨no, fSize no, _, _, by rw [rowV, if_neg h, rowCells], fun _ => ⟨rfl, rfl, rfl, rfl⟩, fun h' => absurd h' h, rfl, rfl⟩
set_option maxRecDepth 100000 in
theorem okBy_row {no sz : Int} {s : ByteArray} (h1 : fKind no ≠ 0 → sz = fSize no) : okBy (fKind no) sz s = fOk no s := by
  by_cases h : fKind no = 0
  · simp [fOk, okBy, h]
  · rw [h1 h]; rfl
set_option maxRecDepth 100000 in
theorem implFieldOk_any (no : Int) (s : ByteArray) (w : World) (hs : s.size ≤ maxLen) :
    Calls Tryz.prog 52 #[.int .i64 no, .string s] w fun e w' => e = .returned (.bool (fOk no s)) ∧ Below w.heap.size w w' := by
  obtain ⟨n', sz, p, g, hv, h1, -, -, -⟩ := rowV_cells no
  have HO := Lib.hid (okBy_row (s := s) fun h => (h1 h).2.1)
  have HV := Lib.hid hv
  have HS := Lib.hid hs
  clear hv h1 hs
  go_enter Tryz.func52, Tryz.ntmps52
  go_wp2_with fail
  refine (fieldAt_any no _).mono ?_
  rintro e w1 ⟨he, hb⟩
  rw [HV.out] at he
  subst he
  go_wp2_with fail
  refine (allows_any n' sz _ p g s _ HS.out (kind_cases no)).mono ?_
  rintro e w2 ⟨rfl, hb2⟩
  go_wp2
  go_ret
  exact ⟨by rw [HO.out]; rfl, hb.trans (hb2.mono hb.size)⟩

set_option maxRecDepth 100000 in
theorem l01In_any (n lo hi : Int) (w : World) :
    Calls Tryz.prog 47 #[.int .i64 n, .int .i64 lo, .int .i64 hi] w fun e w' => e = .returned (.bool (decide (lo ≤ n) && decide (n ≤ hi))) ∧ w = w' := by
  by_cases h0 : lo ≤ n
  all_goals
    go_enter Tryz.func47, Tryz.ntmps47
    go_wp2
    go_ret
    exact ⟨by simp [h0] <;> omega, rfl⟩

set_option maxRecDepth 100000 in
set_option maxHeartbeats 2000000 in
theorem specFieldOk_any (no : Int) (s : ByteArray) (w : World) (hs : s.size ≤ maxLen) :
    Calls Tryz.prog 44 #[.int .i64 no, .string s] w fun e w' => e = .returned (.bool (fOk no s)) ∧ w = w' := by
  have hsz := size_i64 s hs
  have H1 := Lib.hid (specFieldSize_any no)
  have H2 := Lib.hid (specFieldKind_any no)
  have HO : Hid (fOk no s = okBy (fKind no) (fSize no) s) := Lib.hid rfl
  have hk := kind_cases no
  rw [HO.out]
  generalize fKind no = kd at H2 hk
  generalize fSize no = sz at H1
  clear HO
  have HS := Lib.hid hs
  clear hs
  rcases hk with rfl | rfl | rfl | rfl | rfl | rfl
  · have hr : okBy 0 sz s = false := by simp [okBy]
    rw [hr]
    clear hr
    go_enter Tryz.func44, Tryz.ntmps44
    go_wp2_with fail
    refine (H1.out _).mono ?_
    rintro e w1 ⟨rfl, rfl⟩
    go_wp2_with fail
    refine (H2.out _).mono ?_
    rintro e w1 ⟨rfl, rfl⟩
    go_wp2
    go_ret
    exact ⟨rfl, rfl⟩
  · cases hv : digs s
    · have hr : okBy 1 sz s = false := by simp [okBy, hv]
      rw [hr]
      clear hr
      have HD := Lib.hid hv
      clear hv
      go_enter Tryz.func44, Tryz.ntmps44
      go_wp2_with fail
      refine (H1.out _).mono ?_
      rintro e w1 ⟨rfl, rfl⟩
      go_wp2_with fail
      refine (H2.out _).mono ?_
      rintro e w1 ⟨rfl, rfl⟩
      go_wp2_with fail
      refine (specDigits_any s _ HS.out).mono ?_
      rw [HD.out]
      rintro e w1 ⟨rfl, rfl⟩
      go_wp2
      go_ret
      exact ⟨rfl, rfl⟩
    · have hr : okBy 1 sz s = decide ((s.size : Int) = sz) := by simp [okBy, hv]
      rw [hr]
      clear hr
      have HD := Lib.hid hv
      clear hv
      go_enter Tryz.func44, Tryz.ntmps44
      go_wp2_with fail
      refine (H1.out _).mono ?_
      rintro e w1 ⟨rfl, rfl⟩
      go_wp2_with fail
      refine (H2.out _).mono ?_
      rintro e w1 ⟨rfl, rfl⟩
      go_wp2_with fail
      refine (specDigits_any s _ HS.out).mono ?_
      rw [HD.out]
      rintro e w1 ⟨rfl, rfl⟩
      go_wp2
      go_ret
      exact ⟨rfl, rfl⟩
  · cases hv : prnS s
    · have hr : okBy 2 sz s = false := by simp [okBy, hv]
      rw [hr]
      clear hr
      have HD := Lib.hid hv
      clear hv
      go_enter Tryz.func44, Tryz.ntmps44
      go_wp2_with fail
      refine (H1.out _).mono ?_
      rintro e w1 ⟨rfl, rfl⟩
      go_wp2_with fail
      refine (H2.out _).mono ?_
      rintro e w1 ⟨rfl, rfl⟩
      go_wp2_with fail
      refine (specPrintable_any s _ HS.out).mono ?_
      rw [HD.out]
      rintro e w1 ⟨rfl, rfl⟩
      go_wp2
      go_ret
      exact ⟨rfl, rfl⟩
    · have hr : okBy 2 sz s = decide ((s.size : Int) = sz) := by simp [okBy, hv]
      rw [hr]
      clear hr
      have HD := Lib.hid hv
      clear hv
      go_enter Tryz.func44, Tryz.ntmps44
      go_wp2_with fail
      refine (H1.out _).mono ?_
      rintro e w1 ⟨rfl, rfl⟩
      go_wp2_with fail
      refine (H2.out _).mono ?_
      rintro e w1 ⟨rfl, rfl⟩
      go_wp2_with fail
      refine (specPrintable_any s _ HS.out).mono ?_
      rw [HD.out]
      rintro e w1 ⟨rfl, rfl⟩
      go_wp2
      go_ret
      exact ⟨rfl, rfl⟩
  · cases hv : digs s
    · have hr : okBy 3 sz s = false := by simp [okBy, hv]
      rw [hr]
      clear hr
      have HD := Lib.hid hv
      clear hv
      go_enter Tryz.func44, Tryz.ntmps44
      go_wp2_with fail
      refine (H1.out _).mono ?_
      rintro e w1 ⟨rfl, rfl⟩
      go_wp2_with fail
      refine (H2.out _).mono ?_
      rintro e w1 ⟨rfl, rfl⟩
      go_wp2_with fail
      refine (specDigits_any s _ HS.out).mono ?_
      rw [HD.out]
      rintro e w1 ⟨rfl, rfl⟩
      go_wp2
      go_ret
      exact ⟨rfl, rfl⟩
    · have hr : okBy 3 sz s = decide ((s.size : Int) ≤ sz) := by simp [okBy, hv]
      rw [hr]
      clear hr
      have HD := Lib.hid hv
      clear hv
      go_enter Tryz.func44, Tryz.ntmps44
      go_wp2_with fail
      refine (H1.out _).mono ?_
      rintro e w1 ⟨rfl, rfl⟩
      go_wp2_with fail
      refine (H2.out _).mono ?_
      rintro e w1 ⟨rfl, rfl⟩
      go_wp2_with fail
      refine (specDigits_any s _ HS.out).mono ?_
      rw [HD.out]
      rintro e w1 ⟨rfl, rfl⟩
      go_wp2
      go_ret
      exact ⟨rfl, rfl⟩
  · cases hv : prnS s
    · have hr : okBy 4 sz s = false := by simp [okBy, hv]
      rw [hr]
      clear hr
      have HD := Lib.hid hv
      clear hv
      go_enter Tryz.func44, Tryz.ntmps44
      go_wp2_with fail
      refine (H1.out _).mono ?_
      rintro e w1 ⟨rfl, rfl⟩
      go_wp2_with fail
      refine (H2.out _).mono ?_
      rintro e w1 ⟨rfl, rfl⟩
      go_wp2_with fail
      refine (specPrintable_any s _ HS.out).mono ?_
      rw [HD.out]
      rintro e w1 ⟨rfl, rfl⟩
      go_wp2
      go_ret
      exact ⟨rfl, rfl⟩
    · have hr : okBy 4 sz s = (decide ((1 : Int) ≤ (s.size : Int)) && decide ((s.size : Int) ≤ sz)) := by
        have : decide ((1 : Int) ≤ (s.size : Int)) = decide (0 < s.size) := by apply decide_eq_decide.2; omega
        simp [okBy, hv, this]
      rw [hr]
      clear hr
      have HD := Lib.hid hv
      clear hv
      go_enter Tryz.func44, Tryz.ntmps44
      go_wp2_with fail
      refine (H1.out _).mono ?_
      rintro e w1 ⟨rfl, rfl⟩
      go_wp2_with fail
      refine (H2.out _).mono ?_
      rintro e w1 ⟨rfl, rfl⟩
      go_wp2_with fail
      refine (specPrintable_any s _ HS.out).mono ?_
      rw [HD.out]
      rintro e w1 ⟨rfl, rfl⟩
      go_wp2_with fail
      refine (l01In_any _ _ _ _).mono ?_
      rintro e w1 ⟨rfl, rfl⟩
      go_wp2
      go_ret
      exact ⟨rfl, rfl⟩
  · cases hv : prnS s
    · have hr : okBy 5 sz s = false := by simp [okBy, hv]
      rw [hr]
      clear hr
      have HD := Lib.hid hv
      clear hv
      go_enter Tryz.func44, Tryz.ntmps44
      go_wp2_with fail
      refine (H1.out _).mono ?_
      rintro e w1 ⟨rfl, rfl⟩
      go_wp2_with fail
      refine (H2.out _).mono ?_
      rintro e w1 ⟨rfl, rfl⟩
      go_wp2_with fail
      refine (specPrintable_any s _ HS.out).mono ?_
      rw [HD.out]
      rintro e w1 ⟨rfl, rfl⟩
      go_wp2
      go_ret
      exact ⟨rfl, rfl⟩
    · have hr : okBy 5 sz s = (decide ((1 : Int) ≤ (s.size : Int)) && decide ((s.size : Int) ≤ sz)) := by
        have : decide ((1 : Int) ≤ (s.size : Int)) = decide (0 < s.size) := by apply decide_eq_decide.2; omega
        simp [okBy, hv, this]
      rw [hr]
      clear hr
      have HD := Lib.hid hv
      clear hv
      go_enter Tryz.func44, Tryz.ntmps44
      go_wp2_with fail
      refine (H1.out _).mono ?_
      rintro e w1 ⟨rfl, rfl⟩
      go_wp2_with fail
      refine (H2.out _).mono ?_
      rintro e w1 ⟨rfl, rfl⟩
      go_wp2_with fail
      refine (specPrintable_any s _ HS.out).mono ?_
      rw [HD.out]
      rintro e w1 ⟨rfl, rfl⟩
      go_wp2_with fail
      refine (l01In_any _ _ _ _).mono ?_
      rintro e w1 ⟨rfl, rfl⟩
      go_wp2
      go_ret
      exact ⟨rfl, rfl⟩
end Go.Proofs.YtmojpiofdfmdgabGreatDoor
set_option linter.unusedVariables false
namespace Go.Proofs.YtmojpiofdfmdgabGreatDoor
open Go.ChangeShapes Go.WideShapes Go.ChangeAt Go.RowKit

def mtiOk (s : ByteArray) : Bool := digs s && decide (s.size = 4)
set_option maxRecDepth 100000 in
theorem isMti_any (s : ByteArray) (w : World) (hs : s.size ≤ maxLen) :
    Calls Tryz.prog 51 #[.string s] w fun e w' => e = .returned (.bool (mtiOk s)) ∧ Below w.heap.size w w' := by
  by_cases h4 : s.size = 4
  · have HM : Hid (mtiOk s = digs s) := Lib.hid (by simp [mtiOk, h4])
    rw [HM.out]
    have h4' : ((s.size : Int) == 4) = true := by simp [h4]
    have HD := Lib.hid (fun w' => implDigits_any s w' hs)
    clear h4
    go_enter Tryz.func51, Tryz.ntmps51
    go_wp2_with fail
    refine (HD.out _).mono ?_
    rintro e w1 ⟨rfl, hb⟩
    go_wp2
    go_ret
    exact ⟨rfl, hb⟩
  · have HM : Hid (mtiOk s = false) := Lib.hid (by simp [mtiOk, h4])
    rw [HM.out]
    have h4' : ((s.size : Int) == 4) = false := by simp; omega
    clear h4
    go_enter Tryz.func51, Tryz.ntmps51
    go_wp2
    go_ret
    exact ⟨rfl, Below.refl _ _⟩
end Go.Proofs.YtmojpiofdfmdgabGreatDoor
set_option linter.unusedVariables false
namespace Go.Proofs.YtmojpiofdfmdgabGreatDoor
open Go.ChangeShapes Go.WideShapes Go.ChangeAt Go.RowKit

set_option maxRecDepth 100000 in
theorem flip_w {P : Program} {f : FuncId} {args : Array Value} {w : World} {v : Ending} (h : Calls P f args w fun e w' => e = v ∧ w = w') : Calls P f args w fun e w' => e = v ∧ w' = w := h.mono fun _ _ ⟨h1, h2⟩ => ⟨h1, h2.symm⟩
/-- is element j a right field, behind the one before it -/
def stepOk (l : List FieldD) (j : Nat) : Bool := fOk (l.getD j noF).1 (l.getD j noF).2 && (decide (j = 0) || decide ((l.getD (j - 1) noF).1 < (l.getD j noF).1))
def listOk (l : List FieldD) : Bool := (List.range l.length).all (stepOk l)
def msgOk (m : MsgD) : Bool := mtiOk m.1 && listOk m.2
set_option maxRecDepth 100000 in
theorem fOk_range {no : Int} {s : ByteArray} (h : fOk no s = true) : 2 ≤ no ∧ no ≤ 103 := by
  have hk : fKind no ≠ 0 := fun e => by rw [fOk_no e] at h; cases h
  unfold fKind at hk
  repeat' (split at hk <;> try omega)
set_option maxRecDepth 100000 in
theorem listOk_yes {l : List FieldD} (h : ∀ j, j < l.length → stepOk l j = true) : listOk l = true := by
  unfold listOk; rw [List.all_eq_true]; intro j hj; exact h j (by simpa using hj)
set_option maxRecDepth 100000 in
theorem listOk_no {l : List FieldD} {j : Nat} (hj : j < l.length) (h : stepOk l j = false) : listOk l = false := by
  unfold listOk; rw [List.all_eq_false]; exact ⟨j, by simpa using hj, by simp [h]⟩
set_option maxRecDepth 100000 in
theorem listOk_at {l : List FieldD} (h : listOk l = true) (j : Nat) (hj : j < l.length) : stepOk l j = true := by
  unfold listOk at h; rw [List.all_eq_true] at h; exact h j (by simpa using hj)

set_option maxRecDepth 100000 in
set_option maxHeartbeats 4000000 in
theorem specMsgOk_any (hi : Nat) (v : Value) (m : MsgD) (w : World) (hm : m.1.size ≤ maxLen) (hn : m.2.length ≤ 1048576) (hs : ∀ x ∈ m.2, x.2.size ≤ maxLen) (h : FieldsR.rd hi w [v] m.2) (hh : hi ≤ w.heap.size) :
    Calls Tryz.prog 18 #[.agg #[.string m.1, v]] w fun e w' => e = .returned (.bool (msgOk m)) ∧ Below w.heap.size w w' := by
  obtain ⟨A, c, rfl, hc, h'⟩ := fields_rd h
  have HR := Lib.hid h'
  have HS := Lib.hid hs
  clear h' hs h
  have HD := Lib.hid (fun w' => specDigits_any m.1 w' hm)
  unfold maxLen at hm
  cases hd : digs m.1
  · have HM : Hid (msgOk m = false) := Lib.hid (by simp [msgOk, mtiOk, hd])
    rw [HM.out]
    have HDD := Lib.hid hd
    clear hd
    go_enter Tryz.func18, Tryz.ntmps18
    go_wp2_with fail
    refine (HD.out _).mono ?_
    rw [HDD.out]
    rintro e w1 ⟨rfl, rfl⟩
    go_wp2
    go_ret
    exact ⟨rfl, (Below.refl _ _).alloc (Nat.le_refl _) _⟩
  by_cases h4 : m.1.size = 4
  · have HM : Hid (msgOk m = listOk m.2) := Lib.hid (by simp [msgOk, mtiOk, hd, h4])
    rw [HM.out]
    have HDD := Lib.hid hd
    clear hd
    have h4' : ((m.1.size : Int) != 4) = false := by simp [h4]
    have H4 := Lib.hid h4
    clear h4 HM
    go_enter Tryz.func18, Tryz.ntmps18
    go_wp2_with fail
    refine (HD.out _).mono ?_
    rw [HDD.out]
    rintro e w1 ⟨rfl, rfl⟩
    go_wp2
    have hbx := ((Below.refl w.heap.size w).alloc (Nat.le_refl _) (.cells #[.string m.1, .slice A m.2.length c] 32))
    have HBX := Lib.hid hbx
    have hbox : (w.alloc (.cells #[.string m.1, .slice A m.2.length c] 32)).cell? ⟨w.heap.size, 1, none⟩ = some (.slice A m.2.length c) := cell_of_row _ _ 1 _ _ (0, 0) (heap_alloc_new _ _)
    have HBO := Lib.hid hbox
    clear hbx hbox
    go_loopw [18] (fun iv wr => ∃ i : Nat, i ≤ m.2.length ∧ iv = .int .i64 i ∧ Hid (∀ j, j < i → stepOk m.2 j = true) ∧ Hid (Below (w.heap.size + 1) (w.alloc (.cells #[.string m.1, .slice A m.2.length c] 32)) wr) ∧ w.heap.size < wr.heap.size) (fun iv _ => m.2.length - (intOf iv).toNat)
    case atStart => exact ⟨0, Nat.zero_le _, rfl, Lib.hid (fun j hj => absurd hj (by omega)), Lib.hid (Below.refl _ _), by simp⟩
    case round =>
      obtain ⟨i, hi', rfl, HG, HB, hz⟩ := hrel
      by_cases hin : i < m.2.length
      · obtain ⟨x, hx⟩ : ∃ x, m.2[i]? = some x := ⟨_, List.getElem?_eq_getElem hin⟩
        obtain ⟨b, off, rfl, hbl, c0, c1⟩ := HR.out i x hx
        have hxs := HS.out x (List.mem_of_getElem? hx)
        have HX : Hid (m.2.getD i noF = x) := Lib.hid (getD_of hx)
        have c0 := (HB.out.cell (p := ⟨b, off + i * 2, none⟩) (show b < w.heap.size + 1 by omega)).trans ((HBX.out.cell (p := ⟨b, off + i * 2, none⟩) (show b < w.heap.size by omega)).trans c0)
        have c1 := (HB.out.cell (p := ⟨b, off + i * 2 + 1, none⟩) (show b < w.heap.size + 1 by omega)).trans ((HBX.out.cell (p := ⟨b, off + i * 2 + 1, none⟩) (show b < w.heap.size by omega)).trans c1)
        have hbox := (HB.out.cell (p := ⟨w.heap.size, 1, none⟩) (show w.heap.size < w.heap.size + 1 by omega)).trans HBO.out
        have g1 : (i : Int) < (m.2.length : Int) := by omega
        have g2 : 0 ≤ (i : Int) := by omega
        have HQ := Lib.hid (fun w' => flip_w (specFieldOk_any x.1 x.2 w' hxs))
        have HBW : Hid (Below w.heap.size w wr) := Lib.hid (HBX.out.trans (HB.out.mono (by omega)))
        have HBN : Hid (∀ o q, Below (w.heap.size + 1) (w.alloc (.cells #[.string m.1, .slice (some ⟨b, off, none⟩) m.2.length c] 32)) ((wr.alloc o).drewN q)) := Lib.hid fun o q => below_drewN (HB.out.alloc (by omega) o) q
        clear hx
        cases hf : fOk x.1 x.2
        · have HF : Hid (listOk m.2 = false) := Lib.hid (listOk_no hin (by unfold stepOk; rw [HX.out, hf]; rfl))
          rw [hf] at HQ
          clear hf
          go_wp2
          go_quiet ((go_at_call 44; exact Calls.quiet_of_same (HQ.out _)))
          go_wp2
          go_ret
          exact ⟨ret_bool HF.out.symm, below_drewN (HBW.out.alloc (by omega) _) _⟩
        rcases Nat.eq_zero_or_pos i with rfl | hpos
        · have HF : Hid (stepOk m.2 0 = true) := Lib.hid (by unfold stepOk; rw [HX.out, hf]; rfl)
          rw [hf] at HQ
          clear hf
          simp only [Nat.zero_mul, Nat.add_zero] at c0 c1
          go_wp2
          go_quiet ((go_at_call 44; exact Calls.quiet_of_same (HQ.out _)))
          go_wp2
          go_roundw
          case rel => exact ⟨1, by omega, rfl, Lib.hid (fun j hj => (show j = 0 by omega) ▸ HF.out), Lib.hid (HBN.out _ _), by simp <;> omega⟩
          case measure => simp [intOf] <;> omega
        · obtain ⟨p, rfl⟩ : ∃ p, i = p + 1 := ⟨i - 1, by omega⟩
          obtain ⟨y, hy⟩ : ∃ y, m.2[p]? = some y := ⟨_, List.getElem?_eq_getElem (by omega)⟩
          obtain ⟨b', off', hA, hbl', d0, d1⟩ := HR.out p y hy
          simp only [Option.some.injEq, Addr.mk.injEq, and_true] at hA
          obtain ⟨rfl, rfl⟩ := hA
          have HY : Hid (m.2.getD p noF = y) := Lib.hid (getD_of hy)
          have d0 := (HB.out.cell (p := ⟨b, off + p * 2, none⟩) (show b < w.heap.size + 1 by omega)).trans ((HBX.out.cell (p := ⟨b, off + p * 2, none⟩) (show b < w.heap.size by omega)).trans d0)
          clear hy d1
          have g3 : (0 : Int) < (p : Int) + 1 := by omega
          have g4 : (0 : Int) ≤ (p : Int) := by omega
          have g5 : (p : Int) < (m.2.length : Int) := by omega
          have hbz : b < wr.heap.size := by omega
          have hwp : IntKind.i64.wrap (p : Int) = p := IntWalk.i64_in _ (by omega)
          by_cases hlt : y.1 < x.1
          · have HF : Hid (stepOk m.2 (p + 1) = true) := Lib.hid (by unfold stepOk; rw [HX.out, hf, show p + 1 - 1 = p by omega, HY.out]; simp [hlt])
            rw [hf] at HQ
            clear hf
            go_wp2
            go_quiet ((go_at_call 44; exact Calls.quiet_of_same (HQ.out _)))
            clear hwp
            go_wp2
            go_roundw
            case rel => exact ⟨p + 1 + 1, by omega, by go_num, Lib.hid (fun j hj => by
              by_cases e : j = p + 1
              · rw [e]; exact HF.out
              · exact HG.out j (by omega)), Lib.hid (HBN.out _ _), by simp; omega⟩
            case measure => simp [intOf] <;> omega
          · have HF : Hid (listOk m.2 = false) := Lib.hid (listOk_no hin (by unfold stepOk; rw [HX.out, hf, show p + 1 - 1 = p by omega, HY.out]; simp [hlt]))
            rw [hf] at HQ
            have hge : x.1 ≤ y.1 := by omega
            clear hf hlt
            go_wp2
            go_quiet ((go_at_call 44; exact Calls.quiet_of_same (HQ.out _)))
            go_wp2
            go_ret
            exact ⟨ret_bool HF.out.symm, below_drewN (HBW.out.alloc (by omega) _) _⟩
      · obtain rfl : i = m.2.length := by omega
        have HF : Hid (listOk m.2 = true) := Lib.hid (listOk_yes HG.out)
        go_wp2
        go_ret
        exact ⟨ret_bool HF.out.symm, HBX.out.trans (HB.out.mono (by omega))⟩
  · have HM : Hid (msgOk m = false) := Lib.hid (by simp [msgOk, mtiOk, h4])
    rw [HM.out]
    have HDD := Lib.hid hd
    clear hd
    have h4' : ((m.1.size : Int) != 4) = true := by simp; omega
    go_enter Tryz.func18, Tryz.ntmps18
    go_wp2_with fail
    refine (HD.out _).mono ?_
    rw [HDD.out]
    rintro e w1 ⟨rfl, rfl⟩
    go_wp2
    go_ret
    exact ⟨rfl, (Below.refl _ _).alloc (Nat.le_refl _) _⟩
end Go.Proofs.YtmojpiofdfmdgabGreatDoor
set_option linter.unusedVariables false
namespace Go.Proofs.YtmojpiofdfmdgabGreatDoor
open Go.ChangeShapes Go.WideShapes Go.ChangeAt Go.RowKit

/-- block b holds a message with the type t and the list v, a row of one's own beyond b that reads L -/
structure growMsg (b : Nat) (t : ByteArray) (w0 w : World) (v : Value) (L : List FieldD) : Prop where
  blk : w.heap[b]? = some (.cells #[.string t, v] 32 (0, 0))
  own : owE 74 2 fCells (b + 1) w v L
  below : Below b w0 w
section
variable {b : Nat} {t : ByteArray} {w0 w w' : World} {v v' : Value} {L : List FieldD} {y : FieldD} {o : Obj}
set_option maxRecDepth 100000 in
theorem growMsg.lt (h : growMsg b t w0 w v L) : b < w.heap.size := lt_of_block h.blk
set_option maxRecDepth 100000 in
theorem growMsg.free (h : growMsg b t w0 w v L) (i : Nat) : w.frozen? ⟨b, i, none⟩ = false := by unfold World.frozen?; rw [h.blk]; simp
set_option maxRecDepth 100000 in
theorem growMsg.alloc (h : growMsg b t w0 w v L) (o : Obj) : growMsg b t w0 (w.alloc o) v L :=
  ⟨(Below.heap_alloc w o b h.lt).trans h.blk, h.own.alloc o, h.below.alloc (Nat.le_of_lt h.lt) o⟩
set_option maxRecDepth 100000 in
theorem growMsg.start (t : ByteArray) (w : World) : growMsg w.heap.size t w (w.alloc (.cells #[.string t, .slice none 0 0] 32)) (.slice none 0 0) [] :=
  ⟨heap_alloc_new _ _, owE_none _ _ _ _ _, (Below.refl _ _).alloc (Nat.le_refl _) _⟩
set_option maxRecDepth 100000 in
theorem growMsg.mine (h : growMsg b t w0 w v L) : FieldsR.mine (b + 1) w.heap.size w [v] L := by
  rcases h.own.filled (fun _ => rfl) noF with ⟨rfl, A, c, rfl⟩ | ⟨g, c, rfl, hc, h1, h2, hf⟩
  · exact ⟨[], ⟨A, c, rfl, Nat.zero_le _, .inl ⟨rfl, rfl⟩⟩, List.nodup_nil, by simp⟩
  · exact fields_mine rfl hc h1 h2 hf
end
end Go.Proofs.YtmojpiofdfmdgabGreatDoor
set_option linter.unusedVariables false
namespace Go.Proofs.YtmojpiofdfmdgabGreatDoor
open Go.ChangeShapes Go.WideShapes Go.ChangeAt Go.RowKit

def fldHas (l : List FieldD) (no : Int) : Bool := l.any fun x => decide (x.1 = no)
def fldTxt (l : List FieldD) (no : Int) : ByteArray := ((l.find? fun x => decide (x.1 = no)).map (·.2)).getD ⟨#[]⟩
set_option maxRecDepth 100000 in
theorem find_at {l : List FieldD} {no : Int} {i : Nat} {x : FieldD} (hN : ∀ j y, j < i → l[j]? = some y → y.1 ≠ no) (hx : l[i]? = some x) (he : x.1 = no) : fldHas l no = true ∧ fldTxt l no = x.2 := by
  obtain ⟨hi, rfl⟩ := List.getElem?_eq_some_iff.1 hx
  have h1 : l.find? (fun x => decide (x.1 = no)) = some l[i] := by
    rw [List.find?_eq_some_iff_getElem]
    refine ⟨by simpa using he, i, hi, rfl, fun j hj => ?_⟩
    have := hN j _ hj (List.getElem?_eq_getElem (by omega))
    simpa using this
  constructor
  · unfold fldHas; rw [List.any_eq_true]; exact ⟨_, List.getElem_mem hi, by simpa using he⟩
  · unfold fldTxt; rw [h1]; rfl
set_option maxRecDepth 100000 in
theorem find_none {l : List FieldD} {no : Int} (hN : ∀ j y, j < l.length → l[j]? = some y → y.1 ≠ no) : fldHas l no = false ∧ fldTxt l no = ⟨#[]⟩ := by
  have hall : ∀ x ∈ l, ¬ x.1 = no := fun x hx => by
    obtain ⟨j, hj⟩ := List.mem_iff_getElem?.1 hx
    exact hN j x (List.getElem?_eq_some_iff.1 hj).1 hj
  constructor
  · unfold fldHas; rw [List.any_eq_false]; intro x hx; simpa using hall x hx
  · unfold fldTxt
    rw [List.find?_eq_none.2 (fun x hx => by simpa using hall x hx)]
    rfl
set_option maxRecDepth 100000 in
set_option maxHeartbeats 1600000 in
theorem specFieldOf_any (hi : Nat) (v : Value) (m : MsgD) (no : Int) (w : World) (hn : m.2.length ≤ 1048576) (h : FieldsR.rd hi w [v] m.2) (hh : hi ≤ w.heap.size) :
    Calls Tryz.prog 20 #[.agg #[.string m.1, v], .int .i64 no] w fun e w' => e = .returned (.tuple #[.string (fldTxt m.2 no), .bool (fldHas m.2 no)]) ∧ Below w.heap.size w w' := by
  obtain ⟨A, c, rfl, hc, h'⟩ := fields_rd h
  have HR := Lib.hid h'
  clear h' h
  go_enter Tryz.func20, Tryz.ntmps20
  go_wp2
  have HB0 : Hid (Below w.heap.size w (w.alloc (.cells #[.string m.1, .slice A m.2.length c] 32))) := Lib.hid ((Below.refl _ _).alloc (Nat.le_refl _) _)
  go_loopw [11] (fun iv wr => ∃ i : Nat, i ≤ m.2.length ∧ iv = .int .i64 i ∧ Hid (∀ j y, j < i → m.2[j]? = some y → y.1 ≠ no) ∧ Hid (Below w.heap.size w wr) ∧ w.heap.size ≤ wr.heap.size) (fun iv _ => m.2.length - (intOf iv).toNat)
  case atStart => exact ⟨0, Nat.zero_le _, rfl, Lib.hid (fun j y hj => absurd hj (by omega)), HB0, by simp⟩
  case round =>
    obtain ⟨i, hi', rfl, HN, HB, hz⟩ := hrel
    by_cases hin : i < m.2.length
    · obtain ⟨x, hx⟩ : ∃ x, m.2[i]? = some x := ⟨_, List.getElem?_eq_getElem hin⟩
      obtain ⟨b, off, rfl, hbl, c0, c1⟩ := HR.out i x hx
      have HX := Lib.hid hx
      have c0 := (HB.out.cell (p := ⟨b, off + i * 2, none⟩) (show b < w.heap.size by omega)).trans c0
      have c1 := (HB.out.cell (p := ⟨b, off + i * 2 + 1, none⟩) (show b < w.heap.size by omega)).trans c1
      have g1 : (i : Int) < (m.2.length : Int) := by omega
      have g2 : 0 ≤ (i : Int) := by omega
      clear hx
      by_cases he : x.1 = no
      · have HF := Lib.hid (find_at HN.out HX.out he)
        have he' : (x.1 == no) = true := by simpa using he
        clear he
        go_wp2
        go_ret2
        rw [HF.out.1, HF.out.2]
        exact ⟨rfl, HB.out.alloc hz _⟩
      · have he' : (x.1 == no) = false := by simpa using he
        have HE := Lib.hid he
        clear he
        go_wp2
        go_roundw
        case rel => exact ⟨i + 1, by omega, by go_num, Lib.hid (fun j y hj hy => by
          by_cases e : j = i
          · subst e; rw [HX.out] at hy; cases hy; exact HE.out
          · exact HN.out j y (by omega) hy), Lib.hid (HB.out.alloc hz _), by simp; omega⟩
        case measure => simp [intOf] <;> omega
    · obtain rfl : i = m.2.length := by omega
      have HF := Lib.hid (find_none HN.out)
      go_wp2
      go_ret2
      rw [HF.out.1, HF.out.2]
      exact ⟨rfl, HB.out⟩
end Go.Proofs.YtmojpiofdfmdgabGreatDoor
set_option linter.unusedVariables false
namespace Go.Proofs.YtmojpiofdfmdgabGreatDoor
open Go.ChangeShapes Go.WideShapes Go.ChangeAt Go.RowKit

def decStep (n : Int) (c : UInt8) : Int := 10 * n + ((c.toNat : Int) - 48)
/-- the number that the digits denote -/
def decOf (l : List UInt8) : Int := l.foldl decStep 0
/-- do the digits denote money? -/
def scanOk (s : ByteArray) : Bool := digs s && decide (decOf s.data.toList ≤ 4611686018427387904)

set_option maxRecDepth 100000 in
theorem dec_snoc (s : ByteArray) (k : Nat) (h : k < s.size) : decOf (s.data.toList.take (k + 1)) = 10 * decOf (s.data.toList.take k) + ((s[k].toNat : Int) - 48) := by
  rw [take_one s k h]; simp [decOf, List.foldl_append, decStep]
set_option maxRecDepth 100000 in
theorem dec_nonneg : ∀ (l : List UInt8) (n : Int), 0 ≤ n → l.all isDig = true → n ≤ l.foldl decStep n
  | [], n, _, _ => Int.le_refl _
  | c :: l, n, h0, hd => by
    simp only [List.all_cons, Bool.and_eq_true] at hd
    have h1 := (isDig_iff c).1 hd.1
    have h2 : n ≤ decStep n c := by unfold decStep; omega
    exact Int.le_trans h2 (dec_nonneg l (decStep n c) (by omega) hd.2)
set_option maxRecDepth 100000 in
theorem dec_split (l : List UInt8) (k : Nat) : decOf l = (l.drop k).foldl decStep (decOf (l.take k)) := by
  unfold decOf
  rw [← List.foldl_append, List.take_append_drop]
set_option maxRecDepth 100000 in
theorem all_drop (l : List UInt8) (k : Nat) (h : l.all isDig = true) : (l.drop k).all isDig = true := by
  rw [List.all_eq_true] at h ⊢
  exact fun x hx => h x (List.mem_of_mem_drop hx)
set_option maxRecDepth 100000 in
theorem all_take (l : List UInt8) (k : Nat) (h : l.all isDig = true) : (l.take k).all isDig = true := by
  rw [List.all_eq_true] at h ⊢
  exact fun x hx => h x (List.mem_of_mem_take hx)
set_option maxRecDepth 100000 in
theorem dec_pos (l : List UInt8) (h : l.all isDig = true) : 0 ≤ decOf l := dec_nonneg l 0 (Int.le_refl _) h
set_option maxRecDepth 100000 in
theorem digs_all {s : ByteArray} (h : digs s = true) : s.data.toList.all isDig = true := by
  simp only [digs, Bool.and_eq_true] at h; exact h.2
set_option maxRecDepth 100000 in
/-- a first part denotes no more than the whole -/
theorem dec_mono (s : ByteArray) (k : Nat) (h : digs s = true) : decOf (s.data.toList.take k) ≤ decOf s.data.toList := by
  have hd := digs_all h
  rw [dec_split s.data.toList k]
  exact dec_nonneg _ _ (dec_pos _ (all_take _ k hd)) (all_drop _ k hd)
set_option maxRecDepth 100000 in
/-- what passes the limit in the midst is no money -/
theorem scan_over (s : ByteArray) (k : Nat) (h : k < s.size) (ho : 4611686018427387904 < decOf (s.data.toList.take (k + 1))) : scanOk s = false := by
  cases hd : digs s
  · simp [scanOk, hd]
  · have := dec_mono s (k + 1) hd
    simp only [scanOk, hd, Bool.true_and]
    exact decide_eq_false (by omega)
set_option maxRecDepth 100000 in
theorem scan_bad (s : ByteArray) (h : digs s = false) : scanOk s = false := by simp [scanOk, h]
set_option maxRecDepth 100000 in
theorem scan_good (s : ByteArray) (k : Nat) (hk : ¬ k < s.size) (h0 : 0 < s.size) (ha : (s.data.toList.take k).all isDig = true) (hm : decOf (s.data.toList.take k) ≤ 4611686018427387904) : scanOk s = true := by
  simp only [scanOk, digs_yes s k hk h0 ha, Bool.true_and]
  rw [take_end s k hk] at hm
  exact decide_eq_true hm
set_option maxRecDepth 100000 in
theorem empty_yes (s : ByteArray) (h : ¬ 0 < s.size) : s.toList.isEmpty = true := by
  have := not_empty s
  rw [decide_eq_false h] at this
  simpa using this
set_option maxRecDepth 100000 in
theorem empty_no (s : ByteArray) (h : 0 < s.size) : s.toList.isEmpty = false := by
  have := not_empty s
  rw [decide_eq_true h] at this
  simpa using this
end Go.Proofs.YtmojpiofdfmdgabGreatDoor
set_option linter.unusedVariables false
namespace Go.Proofs.YtmojpiofdfmdgabGreatDoor
open Go.ChangeShapes Go.WideShapes Go.ChangeAt Go.RowKit

/-- what scanMoney comes to -/
def scanEnd (s : ByteArray) (e : Ending) : Prop :=
  if scanOk s = true then e = .returned (.tuple #[.int .i64 (decOf s.data.toList), .nilIface]) else ∃ t v, e = .returned (.tuple #[.int .i64 0, .iface t v])
set_option maxRecDepth 100000 in
theorem scanEnd_no {s : ByteArray} (h : scanOk s = false) {t : TypeId} {v : Value} : scanEnd s (.returned (.tuple #[.int .i64 0, .iface t v])) := by
  unfold scanEnd; rw [if_neg (by simp [h])]; exact ⟨t, v, rfl⟩
set_option maxRecDepth 100000 in
theorem scanEnd_yes {s : ByteArray} (h : scanOk s = true) {n : Int} (hn : n = decOf s.data.toList) : scanEnd s (.returned (.tuple #[.int .i64 n, .nilIface])) := by
  unfold scanEnd; rw [if_pos h, hn]

set_option maxRecDepth 100000 in
set_option maxHeartbeats 800000 in
theorem scan_any (s : ByteArray) (w : World) (p : Addr) (hg : 1 < w.heap.size) (hc : w.cell? ⟨1, 0, none⟩ = some (.iface 200 (.pointer (some p)))) :
    Calls Tryz.prog 86 #[.string s] w fun e w' => scanEnd s e ∧ Below w.heap.size w w' := by
  by_cases h0 : 0 < s.size
  · have hE := empty_no s h0
    have hci : ∀ pos, (w.iter s pos).cell? ⟨1, 0, none⟩ = some (.iface 200 (.pointer (some p))) := fun pos => cell?_alloc_old _ hc
    clear hc
    go_enter Tryz.func86, Tryz.ntmps86
    go_wp2
    go_loopw [2, 3, 4] (fun _ _ n wr => ∃ k : Nat, k ≤ s.size ∧ wr = w.iter s k ∧ (s.data.toList.take k).all isDig = true ∧ n = .int .i64 (decOf (s.data.toList.take k)) ∧ 0 ≤ decOf (s.data.toList.take k) ∧ decOf (s.data.toList.take k) ≤ 4611686018427387904) (fun _ _ _ wr => s.size - wr.iterPos w.heap.size)
    case atStart => exact ⟨0, Nat.zero_le _, rfl, rfl, rfl, Int.le_refl _, by simp [decOf]⟩
    case round =>
      obtain ⟨k, hk, rfl, ha0, rfl, hn0, hn1⟩ := hrel
      have ha := Lib.hid ha0
      clear ha0
      by_cases hlt : k < s.size
      · have hsn := Lib.hid (dec_snoc s k hlt)
        have hov := Lib.hid (scan_over s k hlt)
        cases hd : isDig s[k]
        · have hr := rune_not s k hlt hd
          have hnx : ∀ ty, (Instr.next (.pointer (some ⟨w.heap.size, 0, none⟩)) true ty).run Tryz.prog (w.iter s k) = _ := fun ty => run_next_any w s k ty hlt
          generalize hq : Utf8.decode s k = q at hnx hr
          obtain ⟨r, wd⟩ := q
          clear hq
          go_wp2_with (go_at_call 79; refine (isDigit_any _ _).mono ?_; rintro e w' ⟨rfl, rfl⟩)
          go_quiet (fail)
          go_wp2
          go_ret2
          exact ⟨scanEnd_no (scan_bad s (digs_no s k hlt hd)), below_drewN (below_iter _ _ _) _⟩
        · obtain ⟨hdec, hr⟩ := rune_dig s k hlt hd
          have hnx : ∀ ty, (Instr.next (.pointer (some ⟨w.heap.size, 0, none⟩)) true ty).run Tryz.prog (w.iter s k) = _ := fun ty => run_next_any w s k ty hlt
          rw [hdec] at hnx
          have hb := Lib.hid (all_one s k hlt ha.out hd)
          have hg1 : (48 : Int) ≤ (s[k].toNat : Int) := by have := (isDig_iff _).1 hd; omega
          have hg2 : (s[k].toNat : Int) ≤ 57 := by have := (isDig_iff _).1 hd; omega
          clear hdec hd
          by_cases hover : (4611686018427387904 - ((s[k].toNat : Int) - 48)) / 10 < decOf (s.data.toList.take k)
          · go_wp2_with (go_at_call 79; refine (isDigit_any _ _).mono ?_; rintro e w' ⟨rfl, rfl⟩)
            go_ret2
            exact ⟨scanEnd_no (hov.out (by rw [hsn.out]; omega)), below_iter _ _ _⟩
          · go_wp2_with (go_at_call 79; refine (isDigit_any _ _).mono ?_; rintro e w' ⟨rfl, rfl⟩)
            go_roundw
            case rel => exact ⟨k + 1, by omega, rfl, hb.out, val_int hsn.out.symm, by rw [hsn.out]; omega, by rw [hsn.out]; omega⟩
            case measure => simp <;> omega
      · have hgood := Lib.hid (scan_good s k hlt h0 ha.out hn1)
        have hend := Lib.hid (congrArg decOf (take_end s k hlt))
        have hnx : ∀ ty, (Instr.next (.pointer (some ⟨w.heap.size, 0, none⟩)) true ty).run Tryz.prog (w.iter s k) = _ := fun ty => run_next_end w s k ty hlt
        go_wp2
        go_ret2
        exact ⟨scanEnd_yes hgood.out hend.out, below_iter _ _ _⟩
  · have hE := empty_yes s h0
    go_enter Tryz.func86, Tryz.ntmps86
    go_wp2
    go_quiet (fail)
    go_wp2
    go_ret2
    exact ⟨scanEnd_no (scan_bad s (digs_empty s h0)), below_drewN (Below.refl _ _) _⟩
end Go.Proofs.YtmojpiofdfmdgabGreatDoor
