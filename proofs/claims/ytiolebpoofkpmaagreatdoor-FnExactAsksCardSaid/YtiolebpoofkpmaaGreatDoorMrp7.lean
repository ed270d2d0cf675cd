/- fieldAt finds the row of a field; FieldKind and FieldSize of the program; no conditions. -/
import Derived.Test.YtiolebpoofkpmaaGreatDoorMrp6
import Derived.Test.YtiolebpoofkpmaaGreatDoorMrp1
import Derived.Test.YtiolebpoofkpmaaGreatDoorMrp3
import Derived.IntWalk
set_option linter.unusedVariables false
namespace Go.Proofs.YtiolebpoofkpmaaGreatDoor
open Go.ChangeShapes Go.WideShapes Go.ChangeAt Go.RowKit

set_option maxRecDepth 100000 in
theorem known_iff : ∀ k, k < 16 → fKind (fNos.getD k 0) ≠ 0 := by decide +kernel
set_option maxRecDepth 100000 in
theorem not_known (no : Int) (h : ∀ j, j < 16 → fNos.getD j 0 ≠ no) : fKind no = 0 := by
  have h0 := h 0 (by omega); have h1 := h 1 (by omega); have h2 := h 2 (by omega); have h3 := h 3 (by omega); have h4 := h 4 (by omega); have h5 := h 5 (by omega); have h6 := h 6 (by omega); have h7 := h 7 (by omega)
  have h8 := h 8 (by omega); have h9 := h 9 (by omega); have h10 := h 10 (by omega); have h11 := h 11 (by omega); have h12 := h 12 (by omega); have h13 := h 13 (by omega); have h14 := h 14 (by omega); have h15 := h 15 (by omega)
  simp only [fNos, List.getD_cons_zero, List.getD_cons_succ] at *
  unfold fKind
  rw [if_neg (by omega), if_neg (by omega), if_neg (by omega), if_neg (by omega), if_neg (by omega)]

set_option maxRecDepth 100000 in
set_option maxHeartbeats 4000000 in
theorem fieldAt_any (no : Int) (w : World) :
    Calls Tryz.prog 75 #[.int .i64 no] w fun e w' => e = .returned (rowV no) ∧ Below w.heap.size w w' := by
  go_enter Tryz.func75, Tryz.ntmps75
  go_wp2_with fail
  refine (fieldTable_any _).mono ?_
  rintro e w1 ⟨b, rfl, hb0, hb1, hT, hB⟩
  have h1 := bk.new w 107 [.int .i64 0, .int .i64 0, .int .i64 0, .nilFunc, .nilFunc]
  have h2 := h1.below hB h1.lt
  have hz : w.heap.size + 1 ≤ b := by simpa using hb0
  have hBB : Below w.heap.size w w1 := ((Below.refl _ _).alloc (Nat.le_refl _) _).trans (hB.mono (by simp))
  have HT : Hid (bk w1 b 107 fTab) := Lib.hid hT
  have HR := Lib.hid h2
  have HB := Lib.hid hBB
  clear hT hB h1 h2 hBB hb0
  go_wp2
  go_loopw [7] (fun iv wr => ∃ k : Nat, k ≤ 16 ∧ iv = .int .i64 k ∧ Hid (∀ j, j < k → fNos.getD j 0 ≠ no) ∧ Hid (bk wr b 107 fTab) ∧ Hid (bk wr w.heap.size 107 [.int .i64 0, .int .i64 0, .int .i64 0, .nilFunc, .nilFunc]) ∧ Hid (Below w.heap.size w wr)) (fun iv _ => 16 - (intOf iv).toNat)
  case atStart => exact ⟨0, by omega, rfl, Lib.hid (fun j hj => by omega), HT, HR, HB⟩
  case round =>
    obtain ⟨k, hk, rfl, hN, hT, hR, hW⟩ := hrel
    by_cases hlt : k < 16
    · have c0 := (hT.out.cell (k * 5)).trans (tab_cells k hlt 0 (by omega))
      have c1 := (hT.out.cell (k * 5 + 1)).trans (tab_cells k hlt 1 (by omega))
      have c2 := (hT.out.cell (k * 5 + 2)).trans (tab_cells k hlt 2 (by omega))
      have c3 := (hT.out.cell (k * 5 + 3)).trans (tab_cells k hlt 3 (by omega))
      have c4 := (hT.out.cell (k * 5 + 4)).trans (tab_cells k hlt 4 (by omega))
      simp only [rowCells, List.getElem?_cons_zero, List.getElem?_cons_succ] at c0 c1 c2 c3 c4
      have HE : Hid (fKind (fNos.getD k 0) ≠ 0) := Lib.hid (known_iff k hlt)
      generalize hn : fNos.getD k 0 = n at c0 c1 c2 c3 c4 HE
      have HNn := Lib.hid hn
      clear hn
      generalize hs : fSize n = sz at c0 c1 c2 c3 c4
      generalize hkd : fKind n = kd at c0 c1 c2 c3 c4
      generalize hpi : putId kd = pi at c0 c1 c2 c3 c4
      generalize hgi : getId kd = gi at c0 c1 c2 c3 c4
      have HV : Hid (sz = fSize n ∧ kd = fKind n ∧ pi = putId kd ∧ gi = getId kd) := Lib.hid ⟨hs.symm, hkd.symm, hpi.symm, hgi.symm⟩
      clear hs hkd hpi hgi
      have hsz := hR.out.lt
      have r0 := hR.out.cell 0
      have r1 := hR.out.cell 1
      have r2 := hR.out.cell 2
      have r3 := hR.out.cell 3
      have r4 := hR.out.cell 4
      have f0 := hR.out.frozen 0
      have f1 := hR.out.frozen 1
      have f2 := hR.out.frozen 2
      have f3 := hR.out.frozen 3
      have f4 := hR.out.frozen 4
      simp only [List.getElem?_cons_zero, List.getElem?_cons_succ] at r0 r1 r2 r3 r4
      by_cases he : n = no
      · subst he
        go_wp2
        have hb' := ((((((hR.out.set 0 (.int .i64 n)).set 1 (.int .i64 sz)).set 2 (.int .i64 kd)).set 3 (.func (.func pi) #[] #[])).set 4 (.func (.func gi) #[] #[])).alloc (.cells #[.int .i64 n, .int .i64 sz, .int .i64 kd, .func (.func pi) #[] #[], .func (.func gi) #[] #[]] 107))
        have k0 := hb'.cell 0
        have k1 := hb'.cell 1
        have k2 := hb'.cell 2
        have k3 := hb'.cell 3
        have k4 := hb'.cell 4
        simp only [List.set_cons_zero, List.set_cons_succ, List.getElem?_cons_zero, List.getElem?_cons_succ] at k0 k1 k2 k3 k4
        refine bodyPost_ret (v := .agg #[.int .i64 n, .int .i64 sz, .int .i64 kd, .func (.func pi) #[] #[], .func (.func gi) #[] #[]]) (by simp [results, Tryz.results75, go_sem, k0, k1, k2, k3, k4]) rfl ⟨?_, ?_⟩
        · obtain ⟨rfl, rfl, rfl, rfl⟩ := HV.out
          unfold rowV
          rw [if_neg HE.out]
          simp only [rowCells]
        · refine below_new (below_set (below_set (below_set (below_set (below_set hW.out (Nat.le_refl _)) (Nat.le_refl _)) (Nat.le_refl _)) (Nat.le_refl _)) (Nat.le_refl _)) (by simp; omega)
      · have he' : (n == no) = false := beq_eq_false_iff_ne.2 he
        have HNE := Lib.hid he
        go_wp2
        go_roundw
        case rel =>
          refine ⟨k + 1, by omega, by go_num, Lib.hid (fun j hj => ?_), Lib.hid (hT.out.alloc _), Lib.hid (hR.out.alloc _), Lib.hid (hW.out.alloc (by omega) _)⟩
          by_cases e : j = k
          · subst e; rw [HNn.out]; exact HNE.out
          · exact hN.out j (by omega)
        case measure => simp [intOf] <;> omega
    · obtain rfl : k = 16 := by omega
      have HK : Hid (fKind no = 0) := Lib.hid (not_known no hN.out)
      have r0 := hR.out.cell 0
      have r1 := hR.out.cell 1
      have r2 := hR.out.cell 2
      have r3 := hR.out.cell 3
      have r4 := hR.out.cell 4
      have f0 := hR.out.frozen 0
      have f1 := hR.out.frozen 1
      have f2 := hR.out.frozen 2
      have f3 := hR.out.frozen 3
      have f4 := hR.out.frozen 4
      simp only [List.getElem?_cons_zero, List.getElem?_cons_succ] at r0 r1 r2 r3 r4
      go_wp2
      have hb' := (((((hR.out.set 0 (.int .i64 0)).set 1 (.int .i64 0)).set 2 (.int .i64 0)).set 3 .nilFunc).set 4 .nilFunc)
      have k0 := hb'.cell 0
      have k1 := hb'.cell 1
      have k2 := hb'.cell 2
      have k3 := hb'.cell 3
      have k4 := hb'.cell 4
      simp only [List.set_cons_zero, List.set_cons_succ, List.getElem?_cons_zero, List.getElem?_cons_succ] at k0 k1 k2 k3 k4
      refine bodyPost_ret (v := .agg #[.int .i64 0, .int .i64 0, .int .i64 0, .nilFunc, .nilFunc]) (by simp [results, Tryz.results75, go_sem, k0, k1, k2, k3, k4]) rfl ⟨?_, ?_⟩
      · unfold rowV
        rw [if_pos HK.out]
      · refine below_set (below_set (below_set (below_set (below_set hW.out (Nat.le_refl _)) (Nat.le_refl _)) (Nat.le_refl _)) (Nat.le_refl _)) (Nat.le_refl _)
end Go.Proofs.YtiolebpoofkpmaaGreatDoor
set_option linter.unusedVariables false
namespace Go.Proofs.YtiolebpoofkpmaaGreatDoor
open Go.ChangeShapes Go.WideShapes Go.ChangeAt Go.RowKit

set_option maxRecDepth 100000 in
theorem data_get (s : ByteArray) (k : Nat) (h : k < s.size) : s.data.toList[k]'(by simpa using h) = s[k] := rfl
set_option maxRecDepth 100000 in
theorem allP_one (p : UInt8 → Bool) (s : ByteArray) (k : Nat) (h : k < s.size) (ha : (s.data.toList.take k).all p = true) (hb : p s[k] = true) : (s.data.toList.take (k + 1)).all p = true := by
  rw [take_one s k h]; simp [ha, hb]
set_option maxRecDepth 100000 in
theorem allP_end (p : UInt8 → Bool) (s : ByteArray) (k : Nat) (h : ¬ k < s.size) (ha : (s.data.toList.take k).all p = true) : s.data.toList.all p = true := by
  rwa [take_end s k h] at ha
set_option maxRecDepth 100000 in
theorem allP_no (p : UInt8 → Bool) (s : ByteArray) (k : Nat) (h : k < s.size) (ha : p s[k] = false) : s.data.toList.all p = false := by
  rw [List.all_eq_false]
  exact ⟨s[k], by rw [← data_get s k h]; exact List.getElem_mem _, by simp [ha]⟩
end Go.Proofs.YtiolebpoofkpmaaGreatDoor
set_option linter.unusedVariables false
namespace Go.Proofs.YtiolebpoofkpmaaGreatDoor
open Go.ChangeShapes Go.WideShapes Go.ChangeAt Go.RowKit

def prn (c : UInt8) : Bool := decide (32 ≤ c.toNat) && decide (c.toNat ≤ 126)
def prnS (s : ByteArray) : Bool := s.data.toList.all prn
set_option maxRecDepth 100000 in
theorem prn_yes {c : UInt8} (h0 : ¬ (c.toNat : Int) < 32) (h1 : ¬ 126 < (c.toNat : Int)) : prn c = true := by simp [prn]; omega
set_option maxRecDepth 100000 in
theorem prn_no {c : UInt8} (h : (c.toNat : Int) < 32 ∨ 126 < (c.toNat : Int)) : prn c = false := by
  cases hp : prn c
  · rfl
  · simp [prn] at hp; omega

set_option maxRecDepth 100000 in
theorem specPrintable_any (s : ByteArray) (w : World) (hs : s.size ≤ maxLen) :
    Calls Tryz.prog 45 #[.string s] w fun e w' => e = .returned (.bool (prnS s)) ∧ w = w' := by
  unfold maxLen at hs
  go_enter Tryz.func45, Tryz.ntmps45
  go_wp2
  go_loop [3] (fun i => ∃ k : Nat, k ≤ s.size ∧ i = .int .i64 k ∧ (s.data.toList.take k).all prn = true) (fun i => s.size - (intOf i).toNat)
  case atStart => exact ⟨0, Nat.zero_le _, rfl, rfl⟩
  case round =>
    obtain ⟨k, hk, rfl, ha0⟩ := hrel
    have ha := Lib.hid ha0
    clear ha0
    by_cases hlt : k < s.size
    · go_wp2
      · go_ret
        exact ⟨ret_bool (allP_no prn s k hlt (prn_no (by omega))).symm, rfl⟩
      · go_round
        case rel => exact ⟨k + 1, by omega, by go_num, allP_one prn s k hlt ha.out (prn_yes (by omega) (by omega))⟩
        case measure => simp [intOf] <;> omega
      · go_ret
        exact ⟨ret_bool (allP_no prn s k hlt (prn_no (by omega))).symm, rfl⟩
    · go_wp2
      go_ret
      exact ⟨ret_bool (allP_end prn s k hlt ha.out).symm, rfl⟩

set_option maxRecDepth 100000 in
theorem implPrintable_any (s : ByteArray) (w : World) (hs : s.size ≤ maxLen) :
    Calls Tryz.prog 97 #[.string s] w fun e w' => e = .returned (.bool (prnS s)) ∧ w = w' := by
  unfold maxLen at hs
  go_enter Tryz.func97, Tryz.ntmps97
  go_wp2
  go_loop [3, 6] (fun _ i => ∃ k : Nat, k ≤ s.size ∧ i = .int .i64 k ∧ (s.data.toList.take k).all prn = true) (fun _ i => s.size - (intOf i).toNat)
  case atStart => exact ⟨0, Nat.zero_le _, rfl, rfl⟩
  case round =>
    obtain ⟨k, hk, rfl, ha0⟩ := hrel
    have ha := Lib.hid ha0
    clear ha0
    by_cases hlt : k < s.size
    · go_wp2
      · go_ret
        exact ⟨ret_bool (allP_no prn s k hlt (prn_no (by omega))).symm, rfl⟩
      · go_round
        case rel => exact ⟨k + 1, by omega, by go_num, allP_one prn s k hlt ha.out (prn_yes (by omega) (by omega))⟩
        case measure => simp [intOf] <;> omega
      · go_ret
        exact ⟨ret_bool (allP_no prn s k hlt (prn_no (by omega))).symm, rfl⟩
    · go_wp2
      go_ret
      exact ⟨ret_bool (allP_end prn s k hlt ha.out).symm, rfl⟩
end Go.Proofs.YtiolebpoofkpmaaGreatDoor
set_option linter.unusedVariables false
namespace Go.Proofs.YtiolebpoofkpmaaGreatDoor
open Go.ChangeShapes Go.WideShapes Go.ChangeAt Go.RowKit

/-- is s a content of this kind and size? -/
def okBy (kd sz : Int) (s : ByteArray) : Bool :=
  if kd = 1 then decide ((s.size : Int) = sz) && digs s else if kd = 2 then decide ((s.size : Int) = sz) && prnS s else if kd = 3 then decide ((s.size : Int) ≤ sz) && digs s else if kd = 4 ∨ kd = 5 then (decide (0 < s.size) && decide ((s.size : Int) ≤ sz)) && prnS s else false
def fOk (no : Int) (s : ByteArray) : Bool := okBy (fKind no) (fSize no) s
set_option maxRecDepth 100000 in
theorem kind_cases (no : Int) : fKind no = 0 ∨ fKind no = 1 ∨ fKind no = 2 ∨ fKind no = 3 ∨ fKind no = 4 ∨ fKind no = 5 := by
  unfold fKind
  repeat' split
  all_goals omega
set_option maxRecDepth 100000 in
theorem fOk_no {no : Int} {s : ByteArray} (h : fKind no = 0) : fOk no s = false := by simp [fOk, okBy, h]
set_option maxRecDepth 100000 in
theorem size_i64 (s : ByteArray) (hs : s.size ≤ maxLen) : (s.size : Int) ≤ 9223372036854775807 := by unfold maxLen at hs; omega


set_option maxRecDepth 100000 in
set_option maxHeartbeats 2000000 in
theorem allows_any (no sz kd : Int) (p g : Value) (s : ByteArray) (w : World) (hs : s.size ≤ maxLen) (hk : kd = 0 ∨ kd = 1 ∨ kd = 2 ∨ kd = 3 ∨ kd = 4 ∨ kd = 5) :
    Calls Tryz.prog 76 #[.agg #[.int .i64 no, .int .i64 sz, .int .i64 kd, p, g], .string s] w fun e w' => e = .returned (.bool (okBy kd sz s)) ∧ Below w.heap.size w w' := by
  have hsz := size_i64 s hs
  rcases hk with rfl | rfl | rfl | rfl | rfl | rfl
  · have hr : okBy 0 sz s = false := by simp [okBy]
    rw [hr]
    clear hr
    go_enter Tryz.func76, Tryz.ntmps76
    go_wp2
    go_ret
    exact ⟨rfl, (below_new (Below.refl _ _) (Nat.le_refl _))⟩
  · by_cases ht : (s.size : Int) = sz
    · have hr : okBy 1 sz s = digs s := by simp [okBy, ht]
      rw [hr]
      clear hr
      have ht' : ((s.size : Int) == sz) = true := by simpa using ht
      have HS := Lib.hid hs
      clear ht hs
      go_enter Tryz.func76, Tryz.ntmps76
      go_wp2_with fail
      refine (implDigits_any s _ HS.out).mono ?_
      rintro e w1 ⟨rfl, hb⟩
      go_wp2
      go_ret
      exact ⟨rfl, (below_new (Below.refl _ _) (Nat.le_refl _)).trans (hb.mono (by simp))⟩
    · have hr : okBy 1 sz s = false := by simp [okBy, ht]
      rw [hr]
      clear hr
      have ht' : ((s.size : Int) == sz) = false := by simpa using ht
      clear ht
      go_enter Tryz.func76, Tryz.ntmps76
      go_wp2
      go_ret
      exact ⟨rfl, (below_new (Below.refl _ _) (Nat.le_refl _))⟩
  · by_cases ht : (s.size : Int) = sz
    · have hr : okBy 2 sz s = prnS s := by simp [okBy, ht]
      rw [hr]
      clear hr
      have ht' : ((s.size : Int) == sz) = true := by simpa using ht
      have HS := Lib.hid hs
      clear ht hs
      go_enter Tryz.func76, Tryz.ntmps76
      go_wp2_with fail
      refine (implPrintable_any s _ HS.out).mono ?_
      rintro e w1 ⟨rfl, rfl⟩
      go_wp2
      go_ret
      exact ⟨rfl, (below_new (Below.refl _ _) (Nat.le_refl _))⟩
    · have hr : okBy 2 sz s = false := by simp [okBy, ht]
      rw [hr]
      clear hr
      have ht' : ((s.size : Int) == sz) = false := by simpa using ht
      clear ht
      go_enter Tryz.func76, Tryz.ntmps76
      go_wp2
      go_ret
      exact ⟨rfl, (below_new (Below.refl _ _) (Nat.le_refl _))⟩
  · by_cases ht : (s.size : Int) ≤ sz
    · have hr : okBy 3 sz s = digs s := by simp [okBy, ht]
      rw [hr]
      clear hr
      have ht' : decide ((s.size : Int) ≤ sz) = true := by simpa using ht
      have HS := Lib.hid hs
      clear ht hs
      go_enter Tryz.func76, Tryz.ntmps76
      go_wp2_with fail
      refine (implDigits_any s _ HS.out).mono ?_
      rintro e w1 ⟨rfl, hb⟩
      go_wp2
      go_ret
      exact ⟨rfl, (below_new (Below.refl _ _) (Nat.le_refl _)).trans (hb.mono (by simp))⟩
    · have hr : okBy 3 sz s = false := by simp [okBy, ht]
      rw [hr]
      clear hr
      have ht' : decide ((s.size : Int) ≤ sz) = false := by simpa using ht
      clear ht
      go_enter Tryz.func76, Tryz.ntmps76
      go_wp2
      go_ret
      exact ⟨rfl, (below_new (Below.refl _ _) (Nat.le_refl _))⟩
  · by_cases h0 : s.toList = []
    · have hr : okBy 4 sz s = false := by
        have : s.size = 0 := by rw [ByteArray.toList_eq] at h0; have := congrArg List.length h0; simpa using this
        simp [okBy, this]
      rw [hr]
      clear hr
      have h0' : s.toList.isEmpty = true := by simp [h0]
      go_enter Tryz.func76, Tryz.ntmps76
      go_wp2
      go_ret
      exact ⟨rfl, (below_new (Below.refl _ _) (Nat.le_refl _))⟩
    · have hp : 0 < s.size := by
        rcases Nat.eq_zero_or_pos s.size with h | h
        · exact absurd (by rw [ByteArray.toList_eq]; exact List.eq_nil_of_length_eq_zero (by simpa using h)) h0
        · exact h
      have h0' : s.toList.isEmpty = false := by simpa using h0
      by_cases ht : (s.size : Int) ≤ sz
      · have hr : okBy 4 sz s = prnS s := by simp [okBy, ht, hp]
        rw [hr]
        clear hr
        have ht' : decide ((s.size : Int) ≤ sz) = true := by simpa using ht
        have HS := Lib.hid hs
        clear ht hs h0
        go_enter Tryz.func76, Tryz.ntmps76
        go_wp2_with fail
        refine (implPrintable_any s _ HS.out).mono ?_
        rintro e w1 ⟨rfl, rfl⟩
        go_wp2
        go_ret
        exact ⟨rfl, (below_new (Below.refl _ _) (Nat.le_refl _))⟩
      · have hr : okBy 4 sz s = false := by simp [okBy, ht]
        rw [hr]
        clear hr
        have ht' : decide ((s.size : Int) ≤ sz) = false := by simpa using ht
        clear ht h0
        go_enter Tryz.func76, Tryz.ntmps76
        go_wp2
        go_ret
        exact ⟨rfl, (below_new (Below.refl _ _) (Nat.le_refl _))⟩
  · by_cases h0 : s.toList = []
    · have hr : okBy 5 sz s = false := by
        have : s.size = 0 := by rw [ByteArray.toList_eq] at h0; have := congrArg List.length h0; simpa using this
        simp [okBy, this]
      rw [hr]
      clear hr
      have h0' : s.toList.isEmpty = true := by simp [h0]
      go_enter Tryz.func76, Tryz.ntmps76
      go_wp2
      go_ret
      exact ⟨rfl, (below_new (Below.refl _ _) (Nat.le_refl _))⟩
    · have hp : 0 < s.size := by
        rcases Nat.eq_zero_or_pos s.size with h | h
        · exact absurd (by rw [ByteArray.toList_eq]; exact List.eq_nil_of_length_eq_zero (by simpa using h)) h0
        · exact h
      have h0' : s.toList.isEmpty = false := by simpa using h0
      by_cases ht : (s.size : Int) ≤ sz
      · have hr : okBy 5 sz s = prnS s := by simp [okBy, ht, hp]
        rw [hr]
        clear hr
        have ht' : decide ((s.size : Int) ≤ sz) = true := by simpa using ht
        have HS := Lib.hid hs
        clear ht hs h0
        go_enter Tryz.func76, Tryz.ntmps76
        go_wp2_with fail
        refine (implPrintable_any s _ HS.out).mono ?_
        rintro e w1 ⟨rfl, rfl⟩
        go_wp2
        go_ret
        exact ⟨rfl, (below_new (Below.refl _ _) (Nat.le_refl _))⟩
      · have hr : okBy 5 sz s = false := by simp [okBy, ht]
        rw [hr]
        clear hr
        have ht' : decide ((s.size : Int) ≤ sz) = false := by simpa using ht
        clear ht h0
        go_enter Tryz.func76, Tryz.ntmps76
        go_wp2
        go_ret
        exact ⟨rfl, (below_new (Below.refl _ _) (Nat.le_refl _))⟩

set_option maxRecDepth 100000 in
theorem row_form (a b c : Int) (p g : Value) (w : World) : (Instr.field 107 (.agg #[.int .i64 a, .int .i64 b, .int .i64 c, p, g]) 2).run Tryz.prog w = .ok (.agg #[.int .i64 c, p, g]) w := rfl
set_option maxRecDepth 100000 in
theorem form_kind (c : Int) (p g : Value) (w : World) : (Instr.field 105 (.agg #[.int .i64 c, p, g]) 0).run Tryz.prog w = .ok (.int .i64 c) w := rfl
set_option maxRecDepth 100000 in
theorem rowV_cells (no : Int) : ∃ (n' sz : Int) (p g : Value), rowV no = .agg #[.int .i64 n', .int .i64 sz, .int .i64 (fKind no), p, g] ∧ (fKind no ≠ 0 → n' = no ∧ sz = fSize no ∧ p = .func (.func (putId (fKind no))) #[] #[] ∧ g = .func (.func (getId (fKind no))) #[] #[]) ∧ (fKind no = 0 → sz = 0 ∧ p = .nilFunc ∧ g = .nilFunc) ∧ p.oneCell' = true ∧ g.oneCell' = true := by
  by_cases h : fKind no = 0
  · exact ⟨0, 0, .nilFunc, .nilFunc, by rw [rowV, if_pos h, h], fun h' => absurd h h', fun _ => ⟨rfl, rfl, rfl⟩, rfl, rfl⟩
  · exact ⟨no, fSize no, _, _, by rw [rowV, if_neg h, rowCells], fun _ => ⟨rfl, rfl, rfl, rfl⟩, fun h' => absurd h' h, rfl, rfl⟩
set_option maxRecDepth 100000 in
theorem okBy_row {no sz : Int} {s : ByteArray} (h1 : fKind no ≠ 0 → sz = fSize no) : okBy (fKind no) sz s = fOk no s := by
  by_cases h : fKind no = 0
  · simp [fOk, okBy, h]
  · rw [h1 h]; rfl
set_option maxRecDepth 100000 in
theorem implFieldKind_any (no : Int) (w : World) :
    Calls Tryz.prog 74 #[.int .i64 no] w fun e w' => e = .returned (.int .i64 (fKind no)) ∧ Below w.heap.size w w' := by
  obtain ⟨n', sz, p, g, hv, -, -, -, -⟩ := rowV_cells no
  have HV := Lib.hid hv
  clear hv
  have hf2 := row_form n' sz (fKind no) p g
  have hf3 := form_kind (fKind no) p g
  go_enter Tryz.func74, Tryz.ntmps74
  go_wp2_with fail
  refine (fieldAt_any no _).mono ?_
  rintro e w1 ⟨he, hb⟩
  rw [HV.out] at he
  subst he
  go_wp2
  go_ret
  exact ⟨rfl, hb⟩
set_option maxRecDepth 100000 in
theorem implFieldOk_any (no : Int) (s : ByteArray) (w : World) (hs : s.size ≤ maxLen) :
    Calls Tryz.prog 58 #[.int .i64 no, .string s] w fun e w' => e = .returned (.bool (fOk no s)) ∧ Below w.heap.size w w' := by
  obtain ⟨n', sz, p, g, hv, h1, -, -, -⟩ := rowV_cells no
  have HO := Lib.hid (okBy_row (s := s) fun h => (h1 h).2.1)
  have HV := Lib.hid hv
  have HS := Lib.hid hs
  clear hv h1 hs
  go_enter Tryz.func58, Tryz.ntmps58
  go_wp2_with fail
  refine (fieldAt_any no _).mono ?_
  rintro e w1 ⟨he, hb⟩
  rw [HV.out] at he
  subst he
  go_wp2_with fail
  refine (allows_any n' sz _ p g s _ HS.out (kind_cases no)).mono ?_
  rintro e w2 ⟨rfl, hb2⟩
  go_wp2
  go_ret
  exact ⟨by rw [HO.out]; rfl, hb.trans (hb2.mono hb.size)⟩

set_option maxRecDepth 100000 in
theorem l01In_any (n lo hi : Int) (w : World) :
    Calls Tryz.prog 44 #[.int .i64 n, .int .i64 lo, .int .i64 hi] w fun e w' => e = .returned (.bool (decide (lo ≤ n) && decide (n ≤ hi))) ∧ w = w' := by
  by_cases h0 : lo ≤ n
  all_goals
    go_enter Tryz.func44, Tryz.ntmps44
    go_wp2
    go_ret
    exact ⟨by simp [h0] <;> omega, rfl⟩

set_option maxRecDepth 100000 in
set_option maxHeartbeats 2000000 in
theorem specFieldOk_any (no : Int) (s : ByteArray) (w : World) (hs : s.size ≤ maxLen) :
    Calls Tryz.prog 46 #[.int .i64 no, .string s] w fun e w' => e = .returned (.bool (fOk no s)) ∧ w = w' := by
  have hsz := size_i64 s hs
  have H1 := Lib.hid (specFieldSize_any no)
  have H2 := Lib.hid (specFieldKind_any no)
  have HO : Hid (fOk no s = okBy (fKind no) (fSize no) s) := Lib.hid rfl
  have hk := kind_cases no
  rw [HO.out]
  generalize fKind no = kd at H2 hk
  generalize fSize no = sz at H1
  clear HO
  have HS := Lib.hid hs
  clear hs
  rcases hk with rfl | rfl | rfl | rfl | rfl | rfl
  · have hr : okBy 0 sz s = false := by simp [okBy]
    rw [hr]
    clear hr
    go_enter Tryz.func46, Tryz.ntmps46
    go_wp2_with fail
    refine (H1.out _).mono ?_
    rintro e w1 ⟨rfl, rfl⟩
    go_wp2_with fail
    refine (H2.out _).mono ?_
    rintro e w1 ⟨rfl, rfl⟩
    go_wp2
    go_ret
    exact ⟨rfl, rfl⟩
  · cases hv : digs s
    · have hr : okBy 1 sz s = false := by simp [okBy, hv]
      rw [hr]
      clear hr
      have HD := Lib.hid hv
      clear hv
      go_enter Tryz.func46, Tryz.ntmps46
      go_wp2_with fail
      refine (H1.out _).mono ?_
      rintro e w1 ⟨rfl, rfl⟩
      go_wp2_with fail
      refine (H2.out _).mono ?_
      rintro e w1 ⟨rfl, rfl⟩
      go_wp2_with fail
      refine (specDigits_any s _ HS.out).mono ?_
      rw [HD.out]
      rintro e w1 ⟨rfl, rfl⟩
      go_wp2
      go_ret
      exact ⟨rfl, rfl⟩
    · have hr : okBy 1 sz s = decide ((s.size : Int) = sz) := by simp [okBy, hv]
      rw [hr]
      clear hr
      have HD := Lib.hid hv
      clear hv
      go_enter Tryz.func46, Tryz.ntmps46
      go_wp2_with fail
      refine (H1.out _).mono ?_
      rintro e w1 ⟨rfl, rfl⟩
      go_wp2_with fail
      refine (H2.out _).mono ?_
      rintro e w1 ⟨rfl, rfl⟩
      go_wp2_with fail
      refine (specDigits_any s _ HS.out).mono ?_
      rw [HD.out]
      rintro e w1 ⟨rfl, rfl⟩
      go_wp2
      go_ret
      exact ⟨rfl, rfl⟩
  · cases hv : prnS s
    · have hr : okBy 2 sz s = false := by simp [okBy, hv]
      rw [hr]
      clear hr
      have HD := Lib.hid hv
      clear hv
      go_enter Tryz.func46, Tryz.ntmps46
      go_wp2_with fail
      refine (H1.out _).mono ?_
      rintro e w1 ⟨rfl, rfl⟩
      go_wp2_with fail
      refine (H2.out _).mono ?_
      rintro e w1 ⟨rfl, rfl⟩
      go_wp2_with fail
      refine (specPrintable_any s _ HS.out).mono ?_
      rw [HD.out]
      rintro e w1 ⟨rfl, rfl⟩
      go_wp2
      go_ret
      exact ⟨rfl, rfl⟩
    · have hr : okBy 2 sz s = decide ((s.size : Int) = sz) := by simp [okBy, hv]
      rw [hr]
      clear hr
      have HD := Lib.hid hv
      clear hv
      go_enter Tryz.func46, Tryz.ntmps46
      go_wp2_with fail
      refine (H1.out _).mono ?_
      rintro e w1 ⟨rfl, rfl⟩
      go_wp2_with fail
      refine (H2.out _).mono ?_
      rintro e w1 ⟨rfl, rfl⟩
      go_wp2_with fail
      refine (specPrintable_any s _ HS.out).mono ?_
      rw [HD.out]
      rintro e w1 ⟨rfl, rfl⟩
      go_wp2
      go_ret
      exact ⟨rfl, rfl⟩
  · cases hv : digs s
    · have hr : okBy 3 sz s = false := by simp [okBy, hv]
      rw [hr]
      clear hr
      have HD := Lib.hid hv
      clear hv
      go_enter Tryz.func46, Tryz.ntmps46
      go_wp2_with fail
      refine (H1.out _).mono ?_
      rintro e w1 ⟨rfl, rfl⟩
      go_wp2_with fail
      refine (H2.out _).mono ?_
      rintro e w1 ⟨rfl, rfl⟩
      go_wp2_with fail
      refine (specDigits_any s _ HS.out).mono ?_
      rw [HD.out]
      rintro e w1 ⟨rfl, rfl⟩
      go_wp2
      go_ret
      exact ⟨rfl, rfl⟩
    · have hr : okBy 3 sz s = decide ((s.size : Int) ≤ sz) := by simp [okBy, hv]
      rw [hr]
      clear hr
      have HD := Lib.hid hv
      clear hv
      go_enter Tryz.func46, Tryz.ntmps46
      go_wp2_with fail
      refine (H1.out _).mono ?_
      rintro e w1 ⟨rfl, rfl⟩
      go_wp2_with fail
      refine (H2.out _).mono ?_
      rintro e w1 ⟨rfl, rfl⟩
      go_wp2_with fail
      refine (specDigits_any s _ HS.out).mono ?_
      rw [HD.out]
      rintro e w1 ⟨rfl, rfl⟩
      go_wp2
      go_ret
      exact ⟨rfl, rfl⟩
  · cases hv : prnS s
    · have hr : okBy 4 sz s = false := by simp [okBy, hv]
      rw [hr]
      clear hr
      have HD := Lib.hid hv
      clear hv
      go_enter Tryz.func46, Tryz.ntmps46
      go_wp2_with fail
      refine (H1.out _).mono ?_
      rintro e w1 ⟨rfl, rfl⟩
      go_wp2_with fail
      refine (H2.out _).mono ?_
      rintro e w1 ⟨rfl, rfl⟩
      go_wp2_with fail
      refine (specPrintable_any s _ HS.out).mono ?_
      rw [HD.out]
      rintro e w1 ⟨rfl, rfl⟩
      go_wp2
      go_ret
      exact ⟨rfl, rfl⟩
    · have hr : okBy 4 sz s = (decide ((1 : Int) ≤ (s.size : Int)) && decide ((s.size : Int) ≤ sz)) := by
        have : decide ((1 : Int) ≤ (s.size : Int)) = decide (0 < s.size) := by apply decide_eq_decide.2; omega
        simp [okBy, hv, this]
      rw [hr]
      clear hr
      have HD := Lib.hid hv
      clear hv
      go_enter Tryz.func46, Tryz.ntmps46
      go_wp2_with fail
      refine (H1.out _).mono ?_
      rintro e w1 ⟨rfl, rfl⟩
      go_wp2_with fail
      refine (H2.out _).mono ?_
      rintro e w1 ⟨rfl, rfl⟩
      go_wp2_with fail
      refine (specPrintable_any s _ HS.out).mono ?_
      rw [HD.out]
      rintro e w1 ⟨rfl, rfl⟩
      go_wp2_with fail
      refine (l01In_any _ _ _ _).mono ?_
      rintro e w1 ⟨rfl, rfl⟩
      go_wp2
      go_ret
      exact ⟨rfl, rfl⟩
  · cases hv : prnS s
    · have hr : okBy 5 sz s = false := by simp [okBy, hv]
      rw [hr]
      clear hr
      have HD := Lib.hid hv
      clear hv
      go_enter Tryz.func46, Tryz.ntmps46
      go_wp2_with fail
      refine (H1.out _).mono ?_
      rintro e w1 ⟨rfl, rfl⟩
      go_wp2_with fail
      refine (H2.out _).mono ?_
      rintro e w1 ⟨rfl, rfl⟩
      go_wp2_with fail
      refine (specPrintable_any s _ HS.out).mono ?_
      rw [HD.out]
      rintro e w1 ⟨rfl, rfl⟩
      go_wp2
      go_ret
      exact ⟨rfl, rfl⟩
    · have hr : okBy 5 sz s = (decide ((1 : Int) ≤ (s.size : Int)) && decide ((s.size : Int) ≤ sz)) := by
        have : decide ((1 : Int) ≤ (s.size : Int)) = decide (0 < s.size) := by apply decide_eq_decide.2; omega
        simp [okBy, hv, this]
      rw [hr]
      clear hr
      have HD := Lib.hid hv
      clear hv
      go_enter Tryz.func46, Tryz.ntmps46
      go_wp2_with fail
      refine (H1.out _).mono ?_
      rintro e w1 ⟨rfl, rfl⟩
      go_wp2_with fail
      refine (H2.out _).mono ?_
      rintro e w1 ⟨rfl, rfl⟩
      go_wp2_with fail
      refine (specPrintable_any s _ HS.out).mono ?_
      rw [HD.out]
      rintro e w1 ⟨rfl, rfl⟩
      go_wp2_with fail
      refine (l01In_any _ _ _ _).mono ?_
      rintro e w1 ⟨rfl, rfl⟩
      go_wp2
      go_ret
      exact ⟨rfl, rfl⟩
end Go.Proofs.YtiolebpoofkpmaaGreatDoor
set_option linter.unusedVariables false
namespace Go.Proofs.YtiolebpoofkpmaaGreatDoor
open Go.ChangeShapes Go.WideShapes Go.ChangeAt Go.RowKit

def mtiOk (s : ByteArray) : Bool := digs s && decide (s.size = 4)
set_option maxRecDepth 100000 in
theorem isMti_any (s : ByteArray) (w : World) (hs : s.size ≤ maxLen) :
    Calls Tryz.prog 57 #[.string s] w fun e w' => e = .returned (.bool (mtiOk s)) ∧ Below w.heap.size w w' := by
  by_cases h4 : s.size = 4
  · have HM : Hid (mtiOk s = digs s) := Lib.hid (by simp [mtiOk, h4])
    rw [HM.out]
    have h4' : ((s.size : Int) == 4) = true := by simp [h4]
    have HD := Lib.hid (fun w' => implDigits_any s w' hs)
    clear h4
    go_enter Tryz.func57, Tryz.ntmps57
    go_wp2_with fail
    refine (HD.out _).mono ?_
    rintro e w1 ⟨rfl, hb⟩
    go_wp2
    go_ret
    exact ⟨rfl, hb⟩
  · have HM : Hid (mtiOk s = false) := Lib.hid (by simp [mtiOk, h4])
    rw [HM.out]
    have h4' : ((s.size : Int) == 4) = false := by simp; omega
    clear h4
    go_enter Tryz.func57, Tryz.ntmps57
    go_wp2
    go_ret
    exact ⟨rfl, Below.refl _ _⟩
end Go.Proofs.YtiolebpoofkpmaaGreatDoor
set_option linter.unusedVariables false
namespace Go.Proofs.YtiolebpoofkpmaaGreatDoor
open Go.ChangeShapes Go.WideShapes Go.ChangeAt Go.RowKit

set_option maxRecDepth 100000 in
theorem flip_w {P : Program} {f : FuncId} {args : Array Value} {w : World} {v : Ending} (h : Calls P f args w fun e w' => e = v ∧ w = w') : Calls P f args w fun e w' => e = v ∧ w' = w := h.mono fun _ _ ⟨h1, h2⟩ => ⟨h1, h2.symm⟩
/-- is element j a right field, behind the one before it -/
def stepOk (l : List FieldD) (j : Nat) : Bool := fOk (l.getD j noF).1 (l.getD j noF).2 && (decide (j = 0) || decide ((l.getD (j - 1) noF).1 < (l.getD j noF).1))
def listOk (l : List FieldD) : Bool := (List.range l.length).all (stepOk l)
def msgOk (m : MsgD) : Bool := mtiOk m.1 && listOk m.2
set_option maxRecDepth 100000 in
theorem fOk_range {no : Int} {s : ByteArray} (h : fOk no s = true) : 2 ≤ no ∧ no ≤ 103 := by
  have hk : fKind no ≠ 0 := fun e => by rw [fOk_no e] at h; cases h
  unfold fKind at hk
  repeat' (split at hk <;> try omega)
set_option maxRecDepth 100000 in
theorem listOk_yes {l : List FieldD} (h : ∀ j, j < l.length → stepOk l j = true) : listOk l = true := by
  unfold listOk; rw [List.all_eq_true]; intro j hj; exact h j (by simpa using hj)
set_option maxRecDepth 100000 in
theorem listOk_no {l : List FieldD} {j : Nat} (hj : j < l.length) (h : stepOk l j = false) : listOk l = false := by
  unfold listOk; rw [List.all_eq_false]; exact ⟨j, by simpa using hj, by simp [h]⟩
set_option maxRecDepth 100000 in
theorem listOk_at {l : List FieldD} (h : listOk l = true) (j : Nat) (hj : j < l.length) : stepOk l j = true := by
  unfold listOk at h; rw [List.all_eq_true] at h; exact h j (by simpa using hj)

set_option maxRecDepth 100000 in
set_option maxHeartbeats 4000000 in
theorem specMsgOk_any (hi : Nat) (v : Value) (m : MsgD) (w : World) (hm : m.1.size ≤ maxLen) (hn : m.2.length ≤ 1048576) (hs : ∀ x ∈ m.2, x.2.size ≤ maxLen) (h : FieldsR.rd hi w [v] m.2) (hh : hi ≤ w.heap.size) :
    Calls Tryz.prog 21 #[.agg #[.string m.1, v]] w fun e w' => e = .returned (.bool (msgOk m)) ∧ Below w.heap.size w w' := by
  obtain ⟨A, c, rfl, hc, h'⟩ := fields_rd h
  have HR := Lib.hid h'
  have HS := Lib.hid hs
  clear h' hs h
  have HD := Lib.hid (fun w' => specDigits_any m.1 w' hm)
  unfold maxLen at hm
  cases hd : digs m.1
  · have HM : Hid (msgOk m = false) := Lib.hid (by simp [msgOk, mtiOk, hd])
    rw [HM.out]
    have HDD := Lib.hid hd
    clear hd
    go_enter Tryz.func21, Tryz.ntmps21
    go_wp2_with fail
    refine (HD.out _).mono ?_
    rw [HDD.out]
    rintro e w1 ⟨rfl, rfl⟩
    go_wp2
    go_ret
    exact ⟨rfl, (Below.refl _ _).alloc (Nat.le_refl _) _⟩
  by_cases h4 : m.1.size = 4
  · have HM : Hid (msgOk m = listOk m.2) := Lib.hid (by simp [msgOk, mtiOk, hd, h4])
    rw [HM.out]
    have HDD := Lib.hid hd
    clear hd
    have h4' : ((m.1.size : Int) != 4) = false := by simp [h4]
    have H4 := Lib.hid h4
    clear h4 HM
    go_enter Tryz.func21, Tryz.ntmps21
    go_wp2_with fail
    refine (HD.out _).mono ?_
    rw [HDD.out]
    rintro e w1 ⟨rfl, rfl⟩
    go_wp2
    have hbx := ((Below.refl w.heap.size w).alloc (Nat.le_refl _) (.cells #[.string m.1, .slice A m.2.length c] 33))
    have HBX := Lib.hid hbx
    have hbox : (w.alloc (.cells #[.string m.1, .slice A m.2.length c] 33)).cell? ⟨w.heap.size, 1, none⟩ = some (.slice A m.2.length c) := cell_of_row _ _ 1 _ _ (0, 0) (heap_alloc_new _ _)
    have HBO := Lib.hid hbox
    clear hbx hbox
    go_loopw [18] (fun iv wr => ∃ i : Nat, i ≤ m.2.length ∧ iv = .int .i64 i ∧ Hid (∀ j, j < i → stepOk m.2 j = true) ∧ Hid (Below (w.heap.size + 1) (w.alloc (.cells #[.string m.1, .slice A m.2.length c] 33)) wr) ∧ w.heap.size < wr.heap.size) (fun iv _ => m.2.length - (intOf iv).toNat)
    case atStart => exact ⟨0, Nat.zero_le _, rfl, Lib.hid (fun j hj => absurd hj (by omega)), Lib.hid (Below.refl _ _), by simp⟩
    case round =>
      obtain ⟨i, hi', rfl, HG, HB, hz⟩ := hrel
      by_cases hin : i < m.2.length
      · obtain ⟨x, hx⟩ : ∃ x, m.2[i]? = some x := ⟨_, List.getElem?_eq_getElem hin⟩
        obtain ⟨b, off, rfl, hbl, c0, c1⟩ := HR.out i x hx
        have hxs := HS.out x (List.mem_of_getElem? hx)
        have HX : Hid (m.2.getD i noF = x) := Lib.hid (getD_of hx)
        have c0 := (HB.out.cell (p := ⟨b, off + i * 2, none⟩) (show b < w.heap.size + 1 by omega)).trans ((HBX.out.cell (p := ⟨b, off + i * 2, none⟩) (show b < w.heap.size by omega)).trans c0)
        have c1 := (HB.out.cell (p := ⟨b, off + i * 2 + 1, none⟩) (show b < w.heap.size + 1 by omega)).trans ((HBX.out.cell (p := ⟨b, off + i * 2 + 1, none⟩) (show b < w.heap.size by omega)).trans c1)
        have hbox := (HB.out.cell (p := ⟨w.heap.size, 1, none⟩) (show w.heap.size < w.heap.size + 1 by omega)).trans HBO.out
        have g1 : (i : Int) < (m.2.length : Int) := by omega
        have g2 : 0 ≤ (i : Int) := by omega
        have HQ := Lib.hid (fun w' => flip_w (specFieldOk_any x.1 x.2 w' hxs))
        have HBW : Hid (Below w.heap.size w wr) := Lib.hid (HBX.out.trans (HB.out.mono (by omega)))
        have HBN : Hid (∀ o q, Below (w.heap.size + 1) (w.alloc (.cells #[.string m.1, .slice (some ⟨b, off, none⟩) m.2.length c] 33)) ((wr.alloc o).drewN q)) := Lib.hid fun o q => below_drewN (HB.out.alloc (by omega) o) q
        clear hx
        cases hf : fOk x.1 x.2
        · have HF : Hid (listOk m.2 = false) := Lib.hid (listOk_no hin (by unfold stepOk; rw [HX.out, hf]; rfl))
          rw [hf] at HQ
          clear hf
          go_wp2
          go_quiet ((go_at_call 46; exact Calls.quiet_of_same (HQ.out _)))
          go_wp2
          go_ret
          exact ⟨ret_bool HF.out.symm, below_drewN (HBW.out.alloc (by omega) _) _⟩
        rcases Nat.eq_zero_or_pos i with rfl | hpos
        · have HF : Hid (stepOk m.2 0 = true) := Lib.hid (by unfold stepOk; rw [HX.out, hf]; rfl)
          rw [hf] at HQ
          clear hf
          simp only [Nat.zero_mul, Nat.add_zero] at c0 c1
          go_wp2
          go_quiet ((go_at_call 46; exact Calls.quiet_of_same (HQ.out _)))
          go_wp2
          go_roundw
          case rel => exact ⟨1, by omega, rfl, Lib.hid (fun j hj => (show j = 0 by omega) ▸ HF.out), Lib.hid (HBN.out _ _), by simp <;> omega⟩
          case measure => simp [intOf] <;> omega
        · obtain ⟨p, rfl⟩ : ∃ p, i = p + 1 := ⟨i - 1, by omega⟩
          obtain ⟨y, hy⟩ : ∃ y, m.2[p]? = some y := ⟨_, List.getElem?_eq_getElem (by omega)⟩
          obtain ⟨b', off', hA, hbl', d0, d1⟩ := HR.out p y hy
          simp only [Option.some.injEq, Addr.mk.injEq, and_true] at hA
          obtain ⟨rfl, rfl⟩ := hA
          have HY : Hid (m.2.getD p noF = y) := Lib.hid (getD_of hy)
          have d0 := (HB.out.cell (p := ⟨b, off + p * 2, none⟩) (show b < w.heap.size + 1 by omega)).trans ((HBX.out.cell (p := ⟨b, off + p * 2, none⟩) (show b < w.heap.size by omega)).trans d0)
          clear hy d1
          have g3 : (0 : Int) < (p : Int) + 1 := by omega
          have g4 : (0 : Int) ≤ (p : Int) := by omega
          have g5 : (p : Int) < (m.2.length : Int) := by omega
          have hbz : b < wr.heap.size := by omega
          have hwp : IntKind.i64.wrap (p : Int) = p := IntWalk.i64_in _ (by omega)
          by_cases hlt : y.1 < x.1
          · have HF : Hid (stepOk m.2 (p + 1) = true) := Lib.hid (by unfold stepOk; rw [HX.out, hf, show p + 1 - 1 = p by omega, HY.out]; simp [hlt])
            rw [hf] at HQ
            clear hf
            go_wp2
            go_quiet ((go_at_call 46; exact Calls.quiet_of_same (HQ.out _)))
            clear hwp
            go_wp2
            go_roundw
            case rel => exact ⟨p + 1 + 1, by omega, by go_num, Lib.hid (fun j hj => by
              by_cases e : j = p + 1
              · rw [e]; exact HF.out
              · exact HG.out j (by omega)), Lib.hid (HBN.out _ _), by simp; omega⟩
            case measure => simp [intOf] <;> omega
          · have HF : Hid (listOk m.2 = false) := Lib.hid (listOk_no hin (by unfold stepOk; rw [HX.out, hf, show p + 1 - 1 = p by omega, HY.out]; simp [hlt]))
            rw [hf] at HQ
            have hge : x.1 ≤ y.1 := by omega
            clear hf hlt
            go_wp2
            go_quiet ((go_at_call 46; exact Calls.quiet_of_same (HQ.out _)))
            go_wp2
            go_ret
            exact ⟨ret_bool HF.out.symm, below_drewN (HBW.out.alloc (by omega) _) _⟩
      · obtain rfl : i = m.2.length := by omega
        have HF : Hid (listOk m.2 = true) := Lib.hid (listOk_yes HG.out)
        go_wp2
        go_ret
        exact ⟨ret_bool HF.out.symm, HBX.out.trans (HB.out.mono (by omega))⟩
  · have HM : Hid (msgOk m = false) := Lib.hid (by simp [msgOk, mtiOk, h4])
    rw [HM.out]
    have HDD := Lib.hid hd
    clear hd
    have h4' : ((m.1.size : Int) != 4) = true := by simp; omega
    go_enter Tryz.func21, Tryz.ntmps21
    go_wp2_with fail
    refine (HD.out _).mono ?_
    rw [HDD.out]
    rintro e w1 ⟨rfl, rfl⟩
    go_wp2
    go_ret
    exact ⟨rfl, (Below.refl _ _).alloc (Nat.le_refl _) _⟩
end Go.Proofs.YtiolebpoofkpmaaGreatDoor
