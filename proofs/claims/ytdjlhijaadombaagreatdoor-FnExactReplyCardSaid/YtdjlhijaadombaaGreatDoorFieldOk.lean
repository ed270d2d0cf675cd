/- FieldOk of both: a content by its kind and size; no conditions beyond the reach. -/
import Derived.Test.YtdjlhijaadombaaGreatDoorFieldAt
import Derived.Test.YtdjlhijaadombaaGreatDoorPrint
import Derived.Test.YtdjlhijaadombaaGreatDoorDig
set_option linter.unusedVariables false
namespace Go.Proofs.YtdjlhijaadombaaGreatDoor
open Go.ChangeShapes Go.WideShapes Go.ChangeAt Go.RowKit

/-- is s a content of this kind and size? -/
def okBy (kd sz : Int) (s : ByteArray) : Bool :=
  if kd = 1 then decide ((s.size : Int) = sz) && digs s else if kd = 2 then decide ((s.size : Int) = sz) && prnS s else if kd = 3 then decide ((s.size : Int) ≤ sz) && digs s else if kd = 4 ∨ kd = 5 then (decide (0 < s.size) && decide ((s.size : Int) ≤ sz)) && prnS s else false
def fOk (no : Int) (s : ByteArray) : Bool := okBy (fKind no) (fSize no) s
set_option maxRecDepth 100000 in
theorem kind_cases (no : Int) : fKind no = 0 ∨ fKind no = 1 ∨ fKind no = 2 ∨ fKind no = 3 ∨ fKind no = 4 ∨ fKind no = 5 := by
  unfold fKind
  repeat' split
  all_goals omega
set_option maxRecDepth 100000 in
theorem fOk_no {no : Int} {s : ByteArray} (h : fKind no = 0) : fOk no s = false := by simp [fOk, okBy, h]
set_option maxRecDepth 100000 in
theorem size_i64 (s : ByteArray) (hs : s.size ≤ maxLen) : (s.size : Int) ≤ 9223372036854775807 := by unfold maxLen at hs; omega


set_option maxRecDepth 100000 in
set_option maxHeartbeats 2000000 in
theorem allows_any (no sz kd : Int) (p g : Value) (s : ByteArray) (w : World) (hs : s.size ≤ maxLen) (hk : kd = 0 ∨ kd = 1 ∨ kd = 2 ∨ kd = 3 ∨ kd = 4 ∨ kd = 5) :
    Calls Tryz.prog 41 #[.agg #[.int .i64 no, .int .i64 sz, .int .i64 kd, p, g], .string s] w fun e w' => e = .returned (.bool (okBy kd sz s)) ∧ Below w.heap.size w w' := by
  have hsz := size_i64 s hs
  rcases hk with rfl | rfl | rfl | rfl | rfl | rfl
  · have hr : okBy 0 sz s = false := by simp [okBy]
    rw [hr]
    clear hr
    go_enter Tryz.func41, Tryz.ntmps41
    go_wp2
    go_ret
    exact ⟨rfl, (below_new (Below.refl _ _) (Nat.le_refl _))⟩
  · by_cases ht : (s.size : Int) = sz
    · have hr : okBy 1 sz s = digs s := by simp [okBy, ht]
      rw [hr]
      clear hr
      have ht' : ((s.size : Int) == sz) = true := by simpa using ht
      have HS := Lib.hid hs
      clear ht hs
      go_enter Tryz.func41, Tryz.ntmps41
      go_wp2_with fail
      refine (implDigits_any s _ HS.out).mono ?_
      rintro e w1 ⟨rfl, hb⟩
      go_wp2
      go_ret
      exact ⟨rfl, (below_new (Below.refl _ _) (Nat.le_refl _)).trans (hb.mono (by simp))⟩
    · have hr : okBy 1 sz s = false := by simp [okBy, ht]
      rw [hr]
      clear hr
      have ht' : ((s.size : Int) == sz) = false := by simpa using ht
      clear ht
      go_enter Tryz.func41, Tryz.ntmps41
      go_wp2
      go_ret
      exact ⟨rfl, (below_new (Below.refl _ _) (Nat.le_refl _))⟩
  · by_cases ht : (s.size : Int) = sz
    · have hr : okBy 2 sz s = prnS s := by simp [okBy, ht]
      rw [hr]
      clear hr
      have ht' : ((s.size : Int) == sz) = true := by simpa using ht
      have HS := Lib.hid hs
      clear ht hs
      go_enter Tryz.func41, Tryz.ntmps41
      go_wp2_with fail
      refine (implPrintable_any s _ HS.out).mono ?_
      rintro e w1 ⟨rfl, rfl⟩
      go_wp2
      go_ret
      exact ⟨rfl, (below_new (Below.refl _ _) (Nat.le_refl _))⟩
    · have hr : okBy 2 sz s = false := by simp [okBy, ht]
      rw [hr]
      clear hr
      have ht' : ((s.size : Int) == sz) = false := by simpa using ht
      clear ht
      go_enter Tryz.func41, Tryz.ntmps41
      go_wp2
      go_ret
      exact ⟨rfl, (below_new (Below.refl _ _) (Nat.le_refl _))⟩
  · by_cases ht : (s.size : Int) ≤ sz
    · have hr : okBy 3 sz s = digs s := by simp [okBy, ht]
      rw [hr]
      clear hr
      have ht' : decide ((s.size : Int) ≤ sz) = true := by simpa using ht
      have HS := Lib.hid hs
      clear ht hs
      go_enter Tryz.func41, Tryz.ntmps41
      go_wp2_with fail
      refine (implDigits_any s _ HS.out).mono ?_
      rintro e w1 ⟨rfl, hb⟩
      go_wp2
      go_ret
      exact ⟨rfl, (below_new (Below.refl _ _) (Nat.le_refl _)).trans (hb.mono (by simp))⟩
    · have hr : okBy 3 sz s = false := by simp [okBy, ht]
      rw [hr]
      clear hr
      have ht' : decide ((s.size : Int) ≤ sz) = false := by simpa using ht
      clear ht
      go_enter Tryz.func41, Tryz.ntmps41
      go_wp2
      go_ret
      exact ⟨rfl, (below_new (Below.refl _ _) (Nat.le_refl _))⟩
  · by_cases h0 : s.toList = []
    · have hr : okBy 4 sz s = false := by
        have : s.size = 0 := by rw [ByteArray.toList_eq] at h0; have := congrArg List.length h0; simpa using this
        simp [okBy, this]
      rw [hr]
      clear hr
      have h0' : s.toList.isEmpty = true := by simp [h0]
      go_enter Tryz.func41, Tryz.ntmps41
      go_wp2
      go_ret
      exact ⟨rfl, (below_new (Below.refl _ _) (Nat.le_refl _))⟩
    · have hp : 0 < s.size := by
        rcases Nat.eq_zero_or_pos s.size with h | h
        · exact absurd (by rw [ByteArray.toList_eq]; exact List.eq_nil_of_length_eq_zero (by simpa using h)) h0
        · exact h
      have h0' : s.toList.isEmpty = false := by simpa using h0
      by_cases ht : (s.size : Int) ≤ sz
      · have hr : okBy 4 sz s = prnS s := by simp [okBy, ht, hp]
        rw [hr]
        clear hr
        have ht' : decide ((s.size : Int) ≤ sz) = true := by simpa using ht
        have HS := Lib.hid hs
        clear ht hs h0
        go_enter Tryz.func41, Tryz.ntmps41
        go_wp2_with fail
        refine (implPrintable_any s _ HS.out).mono ?_
        rintro e w1 ⟨rfl, rfl⟩
        go_wp2
        go_ret
        exact ⟨rfl, (below_new (Below.refl _ _) (Nat.le_refl _))⟩
      · have hr : okBy 4 sz s = false := by simp [okBy, ht]
        rw [hr]
        clear hr
        have ht' : decide ((s.size : Int) ≤ sz) = false := by simpa using ht
        clear ht h0
        go_enter Tryz.func41, Tryz.ntmps41
        go_wp2
        go_ret
        exact ⟨rfl, (below_new (Below.refl _ _) (Nat.le_refl _))⟩
  · by_cases h0 : s.toList = []
    · have hr : okBy 5 sz s = false := by
        have : s.size = 0 := by rw [ByteArray.toList_eq] at h0; have := congrArg List.length h0; simpa using this
        simp [okBy, this]
      rw [hr]
      clear hr
      have h0' : s.toList.isEmpty = true := by simp [h0]
      go_enter Tryz.func41, Tryz.ntmps41
      go_wp2
      go_ret
      exact ⟨rfl, (below_new (Below.refl _ _) (Nat.le_refl _))⟩
    · have hp : 0 < s.size := by
        rcases Nat.eq_zero_or_pos s.size with h | h
        · exact absurd (by rw [ByteArray.toList_eq]; exact List.eq_nil_of_length_eq_zero (by simpa using h)) h0
        · exact h
      have h0' : s.toList.isEmpty = false := by simpa using h0
      by_cases ht : (s.size : Int) ≤ sz
      · have hr : okBy 5 sz s = prnS s := by simp [okBy, ht, hp]
        rw [hr]
        clear hr
        have ht' : decide ((s.size : Int) ≤ sz) = true := by simpa using ht
        have HS := Lib.hid hs
        clear ht hs h0
        go_enter Tryz.func41, Tryz.ntmps41
        go_wp2_with fail
        refine (implPrintable_any s _ HS.out).mono ?_
        rintro e w1 ⟨rfl, rfl⟩
        go_wp2
        go_ret
        exact ⟨rfl, (below_new (Below.refl _ _) (Nat.le_refl _))⟩
      · have hr : okBy 5 sz s = false := by simp [okBy, ht]
        rw [hr]
        clear hr
        have ht' : decide ((s.size : Int) ≤ sz) = false := by simpa using ht
        clear ht h0
        go_enter Tryz.func41, Tryz.ntmps41
        go_wp2
        go_ret
        exact ⟨rfl, (below_new (Below.refl _ _) (Nat.le_refl _))⟩

set_option maxRecDepth 100000 in
theorem row_form (a b c : Int) (p g : Value) (w : World) : (Instr.field 70 (.agg #[.int .i64 a, .int .i64 b, .int .i64 c, p, g]) 2).run Tryz.prog w = .ok (.agg #[.int .i64 c, p, g]) w := rfl
set_option maxRecDepth 100000 in
theorem row_size (a b c : Int) (p g : Value) (w : World) : (Instr.field 70 (.agg #[.int .i64 a, .int .i64 b, .int .i64 c, p, g]) 1).run Tryz.prog w = .ok (.int .i64 b) w := rfl
set_option maxRecDepth 100000 in
theorem form_kind (c : Int) (p g : Value) (w : World) : (Instr.field 68 (.agg #[.int .i64 c, p, g]) 0).run Tryz.prog w = .ok (.int .i64 c) w := rfl
set_option maxRecDepth 100000 in
theorem rowV_cells (no : Int) : ∃ (n' sz : Int) (p g : Value), rowV no = .agg #[.int .i64 n', .int .i64 sz, .int .i64 (fKind no), p, g] ∧ (fKind no ≠ 0 → n' = no ∧ sz = fSize no ∧ p = .func (.func (putId (fKind no))) #[] #[] ∧ g = .func (.func (getId (fKind no))) #[] #[]) ∧ (fKind no = 0 → sz = 0 ∧ p = .nilFunc ∧ g = .nilFunc) ∧ p.oneCell' = true ∧ g.oneCell' = true := by
  by_cases h : fKind no = 0
  · exact ⟨0, 0, .nilFunc, .nilFunc, by rw [rowV, if_pos h, h], fun h' => absurd h h', fun _ => ⟨rfl, rfl, rfl⟩, rfl, rfl⟩
  · exact ⟨no, fSize no, _, _, by rw [rowV, if_neg h, rowCells], fun _ => ⟨rfl, rfl, rfl, rfl⟩, fun h' => absurd h' h, rfl, rfl⟩
set_option maxRecDepth 100000 in
theorem okBy_row {no sz : Int} {s : ByteArray} (h1 : fKind no ≠ 0 → sz = fSize no) : okBy (fKind no) sz s = fOk no s := by
  by_cases h : fKind no = 0
  · simp [fOk, okBy, h]
  · rw [h1 h]; rfl
set_option maxRecDepth 100000 in
theorem implFieldOk_any (no : Int) (s : ByteArray) (w : World) (hs : s.size ≤ maxLen) :
    Calls Tryz.prog 38 #[.int .i64 no, .string s] w fun e w' => e = .returned (.bool (fOk no s)) ∧ Below w.heap.size w w' := by
  obtain ⟨n', sz, p, g, hv, h1, -, -, -⟩ := rowV_cells no
  have HO := Lib.hid (okBy_row (s := s) fun h => (h1 h).2.1)
  have HV := Lib.hid hv
  have HS := Lib.hid hs
  clear hv h1 hs
  go_enter Tryz.func38, Tryz.ntmps38
  go_wp2_with fail
  refine (fieldAt_any no _).mono ?_
  rintro e w1 ⟨he, hb⟩
  rw [HV.out] at he
  subst he
  go_wp2_with fail
  refine (allows_any n' sz _ p g s _ HS.out (kind_cases no)).mono ?_
  rintro e w2 ⟨rfl, hb2⟩
  go_wp2
  go_ret
  exact ⟨by rw [HO.out]; rfl, hb.trans (hb2.mono hb.size)⟩

set_option maxRecDepth 100000 in
theorem l01In_any (n lo hi : Int) (w : World) :
    Calls Tryz.prog 32 #[.int .i64 n, .int .i64 lo, .int .i64 hi] w fun e w' => e = .returned (.bool (decide (lo ≤ n) && decide (n ≤ hi))) ∧ w = w' := by
  by_cases h0 : lo ≤ n
  all_goals
    go_enter Tryz.func32, Tryz.ntmps32
    go_wp2
    go_ret
    exact ⟨by simp [h0] <;> omega, rfl⟩

set_option maxRecDepth 100000 in
set_option maxHeartbeats 2000000 in
theorem specFieldOk_any (no : Int) (s : ByteArray) (w : World) (hs : s.size ≤ maxLen) :
    Calls Tryz.prog 17 #[.int .i64 no, .string s] w fun e w' => e = .returned (.bool (fOk no s)) ∧ w = w' := by
  have hsz := size_i64 s hs
  have H1 := Lib.hid (specFieldSize_any no)
  have H2 := Lib.hid (specFieldKind_any no)
  have HO : Hid (fOk no s = okBy (fKind no) (fSize no) s) := Lib.hid rfl
  have hk := kind_cases no
  rw [HO.out]
  generalize fKind no = kd at H2 hk
  generalize fSize no = sz at H1
  clear HO
  have HS := Lib.hid hs
  clear hs
  rcases hk with rfl | rfl | rfl | rfl | rfl | rfl
  · have hr : okBy 0 sz s = false := by simp [okBy]
    rw [hr]
    clear hr
    go_enter Tryz.func17, Tryz.ntmps17
    go_wp2_with fail
    refine (H1.out _).mono ?_
    rintro e w1 ⟨rfl, rfl⟩
    go_wp2_with fail
    refine (H2.out _).mono ?_
    rintro e w1 ⟨rfl, rfl⟩
    go_wp2
    go_ret
    exact ⟨rfl, rfl⟩
  · cases hv : digs s
    · have hr : okBy 1 sz s = false := by simp [okBy, hv]
      rw [hr]
      clear hr
      have HD := Lib.hid hv
      clear hv
      go_enter Tryz.func17, Tryz.ntmps17
      go_wp2_with fail
      refine (H1.out _).mono ?_
      rintro e w1 ⟨rfl, rfl⟩
      go_wp2_with fail
      refine (H2.out _).mono ?_
      rintro e w1 ⟨rfl, rfl⟩
      go_wp2_with fail
      refine (specDigits_any s _ HS.out).mono ?_
      rw [HD.out]
      rintro e w1 ⟨rfl, rfl⟩
      go_wp2
      go_ret
      exact ⟨rfl, rfl⟩
    · have hr : okBy 1 sz s = decide ((s.size : Int) = sz) := by simp [okBy, hv]
      rw [hr]
      clear hr
      have HD := Lib.hid hv
      clear hv
      go_enter Tryz.func17, Tryz.ntmps17
      go_wp2_with fail
      refine (H1.out _).mono ?_
      rintro e w1 ⟨rfl, rfl⟩
      go_wp2_with fail
      refine (H2.out _).mono ?_
      rintro e w1 ⟨rfl, rfl⟩
      go_wp2_with fail
      refine (specDigits_any s _ HS.out).mono ?_
      rw [HD.out]
      rintro e w1 ⟨rfl, rfl⟩
      go_wp2
      go_ret
      exact ⟨rfl, rfl⟩
  · cases hv : prnS s
    · have hr : okBy 2 sz s = false := by simp [okBy, hv]
      rw [hr]
      clear hr
      have HD := Lib.hid hv
      clear hv
      go_enter Tryz.func17, Tryz.ntmps17
      go_wp2_with fail
      refine (H1.out _).mono ?_
      rintro e w1 ⟨rfl, rfl⟩
      go_wp2_with fail
      refine (H2.out _).mono ?_
      rintro e w1 ⟨rfl, rfl⟩
      go_wp2_with fail
      refine (specPrintable_any s _ HS.out).mono ?_
      rw [HD.out]
      rintro e w1 ⟨rfl, rfl⟩
      go_wp2
      go_ret
      exact ⟨rfl, rfl⟩
    · have hr : okBy 2 sz s = decide ((s.size : Int) = sz) := by simp [okBy, hv]
      rw [hr]
      clear hr
      have HD := Lib.hid hv
      clear hv
      go_enter Tryz.func17, Tryz.ntmps17
      go_wp2_with fail
      refine (H1.out _).mono ?_
      rintro e w1 ⟨rfl, rfl⟩
      go_wp2_with fail
      refine (H2.out _).mono ?_
      rintro e w1 ⟨rfl, rfl⟩
      go_wp2_with fail
      refine (specPrintable_any s _ HS.out).mono ?_
      rw [HD.out]
      rintro e w1 ⟨rfl, rfl⟩
      go_wp2
      go_ret
      exact ⟨rfl, rfl⟩
  · cases hv : digs s
    · have hr : okBy 3 sz s = false := by simp [okBy, hv]
      rw [hr]
      clear hr
      have HD := Lib.hid hv
      clear hv
      go_enter Tryz.func17, Tryz.ntmps17
      go_wp2_with fail
      refine (H1.out _).mono ?_
      rintro e w1 ⟨rfl, rfl⟩
      go_wp2_with fail
      refine (H2.out _).mono ?_
      rintro e w1 ⟨rfl, rfl⟩
      go_wp2_with fail
      refine (specDigits_any s _ HS.out).mono ?_
      rw [HD.out]
      rintro e w1 ⟨rfl, rfl⟩
      go_wp2
      go_ret
      exact ⟨rfl, rfl⟩
    · have hr : okBy 3 sz s = decide ((s.size : Int) ≤ sz) := by simp [okBy, hv]
      rw [hr]
      clear hr
      have HD := Lib.hid hv
      clear hv
      go_enter Tryz.func17, Tryz.ntmps17
      go_wp2_with fail
      refine (H1.out _).mono ?_
      rintro e w1 ⟨rfl, rfl⟩
      go_wp2_with fail
      refine (H2.out _).mono ?_
      rintro e w1 ⟨rfl, rfl⟩
      go_wp2_with fail
      refine (specDigits_any s _ HS.out).mono ?_
      rw [HD.out]
      rintro e w1 ⟨rfl, rfl⟩
      go_wp2
      go_ret
      exact ⟨rfl, rfl⟩
  · cases hv : prnS s
    · have hr : okBy 4 sz s = false := by simp [okBy, hv]
      rw [hr]
      clear hr
      have HD := Lib.hid hv
      clear hv
      go_enter Tryz.func17, Tryz.ntmps17
      go_wp2_with fail
      refine (H1.out _).mono ?_
      rintro e w1 ⟨rfl, rfl⟩
      go_wp2_with fail
      refine (H2.out _).mono ?_
      rintro e w1 ⟨rfl, rfl⟩
      go_wp2_with fail
      refine (specPrintable_any s _ HS.out).mono ?_
      rw [HD.out]
      rintro e w1 ⟨rfl, rfl⟩
      go_wp2
      go_ret
      exact ⟨rfl, rfl⟩
    · have hr : okBy 4 sz s = (decide ((1 : Int) ≤ (s.size : Int)) && decide ((s.size : Int) ≤ sz)) := by
        have : decide ((1 : Int) ≤ (s.size : Int)) = decide (0 < s.size) := by apply decide_eq_decide.2; omega
        simp [okBy, hv, this]
      rw [hr]
      clear hr
      have HD := Lib.hid hv
      clear hv
      go_enter Tryz.func17, Tryz.ntmps17
      go_wp2_with fail
      refine (H1.out _).mono ?_
      rintro e w1 ⟨rfl, rfl⟩
      go_wp2_with fail
      refine (H2.out _).mono ?_
      rintro e w1 ⟨rfl, rfl⟩
      go_wp2_with fail
      refine (specPrintable_any s _ HS.out).mono ?_
      rw [HD.out]
      rintro e w1 ⟨rfl, rfl⟩
      go_wp2_with fail
      refine (l01In_any _ _ _ _).mono ?_
      rintro e w1 ⟨rfl, rfl⟩
      go_wp2
      go_ret
      exact ⟨rfl, rfl⟩
  · cases hv : prnS s
    · have hr : okBy 5 sz s = false := by simp [okBy, hv]
      rw [hr]
      clear hr
      have HD := Lib.hid hv
      clear hv
      go_enter Tryz.func17, Tryz.ntmps17
      go_wp2_with fail
      refine (H1.out _).mono ?_
      rintro e w1 ⟨rfl, rfl⟩
      go_wp2_with fail
      refine (H2.out _).mono ?_
      rintro e w1 ⟨rfl, rfl⟩
      go_wp2_with fail
      refine (specPrintable_any s _ HS.out).mono ?_
      rw [HD.out]
      rintro e w1 ⟨rfl, rfl⟩
      go_wp2
      go_ret
      exact ⟨rfl, rfl⟩
    · have hr : okBy 5 sz s = (decide ((1 : Int) ≤ (s.size : Int)) && decide ((s.size : Int) ≤ sz)) := by
        have : decide ((1 : Int) ≤ (s.size : Int)) = decide (0 < s.size) := by apply decide_eq_decide.2; omega
        simp [okBy, hv, this]
      rw [hr]
      clear hr
      have HD := Lib.hid hv
      clear hv
      go_enter Tryz.func17, Tryz.ntmps17
      go_wp2_with fail
      refine (H1.out _).mono ?_
      rintro e w1 ⟨rfl, rfl⟩
      go_wp2_with fail
      refine (H2.out _).mono ?_
      rintro e w1 ⟨rfl, rfl⟩
      go_wp2_with fail
      refine (specPrintable_any s _ HS.out).mono ?_
      rw [HD.out]
      rintro e w1 ⟨rfl, rfl⟩
      go_wp2_with fail
      refine (l01In_any _ _ _ _).mono ?_
      rintro e w1 ⟨rfl, rfl⟩
      go_wp2
      go_ret
      exact ⟨rfl, rfl⟩
end Go.Proofs.YtdjlhijaadombaaGreatDoor
