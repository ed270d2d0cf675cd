/- HoldIdOk, HoldOk, HoldAt of the reference; no conditions. -/
import Derived.Test.YtkbakcnhhlmpkaaDoorHoldA
import Derived.WalkLawsBesides
set_option linter.unusedVariables false
namespace Go.Proofs.YtkbakcnhhlmpkaaDoor
open Go.ChangeShapes Go.WideShapes Go.ChangeAt Go.RowKit

set_option maxRecDepth 100000 in
set_option maxHeartbeats 1600000 in
theorem specHoldIdOk_any (s : ByteArray) (w : World) (hs : s.size ≤ maxLen) :
    Calls Tryd.prog 75 #[.string s] w fun e w' => e = .returned (.bool (idOk s)) ∧ w = w' := by
  unfold maxLen at hs
  have HI := Lib.hid (fun w => inB_any (s.size : Int) 1 6 w)
  go_enter Tryd.func75, Tryd.ntmps75
  go_wp2
  go_loop [3] (fun i => ∃ k : Nat, k ≤ s.size ∧ i = .int .i64 k ∧ (s.data.toList.take k).all idCh = true) (fun i => s.size - (intOf i).toNat)
  case atStart => exact ⟨0, Nat.zero_le _, rfl, rfl⟩
  case round =>
    obtain ⟨k, hk, rfl, ha0⟩ := hrel
    have ha := Lib.hid ha0
    clear ha0
    by_cases hlt : k < s.size
    · go_wp2
      · go_ret
        exact ⟨ret_bool (idOk_not (all_not (p := idCh) hlt (decide_eq_false (by omega)))).symm, rfl⟩
      · go_round
        case rel => exact ⟨k + 1, by omega, by go_num, all_step hlt ha.out (decide_eq_true (by omega))⟩
        case measure => simp [intOf] <;> omega
      · go_ret
        exact ⟨ret_bool (idOk_not (all_not (p := idCh) hlt (decide_eq_false (by omega)))).symm, rfl⟩
      · go_round
        case rel => exact ⟨k + 1, by omega, by go_num, all_step hlt ha.out (decide_eq_true (by omega))⟩
        case measure => simp [intOf] <;> omega
      · go_ret
        exact ⟨ret_bool (idOk_not (all_not (p := idCh) hlt (decide_eq_false (by omega)))).symm, rfl⟩
    · obtain rfl : k = s.size := by omega
      have HV := Lib.hid (idOk_yes (all_whole ha.out))
      go_wp2_with fail
      refine (HI.out _).mono ?_
      rintro e w1 ⟨rfl, rfl⟩
      go_wp2
      go_ret
      exact ⟨ret_bool HV.out.symm, rfl⟩
set_option maxRecDepth 100000 in
set_option maxHeartbeats 1600000 in
theorem specHoldOk_any (x : HoldD) (w : World) (hs : x.1.size ≤ maxLen) :
    Calls Tryd.prog 66 #[.agg #[.string x.1, .int .i64 x.2.1, .int .i64 x.2.2]] w fun e w' => e = .returned (.bool (holdOk x)) ∧ Below w.heap.size w w' := by
  have HI1 := Lib.hid (fun w => specHoldIdOk_any x.1 w hs)
  have HI2 := Lib.hid (fun w => inB_any x.2.1 1 9007199254740992 w)
  have HT := Lib.hid (fun w => specTime_any x.2.2 w)
  have HD : Hid (holdOk x = (idOk x.1 && (inB x.2.1 1 9007199254740992 && timeB x.2.2))) := Lib.hid rfl
  generalize idOk x.1 = b1 at HI1 HD
  generalize inB x.2.1 1 9007199254740992 = b2 at HI2 HD
  generalize timeB x.2.2 = b3 at HT HD
  have HB0 : Hid (Below w.heap.size w (w.alloc (.cells #[.string x.1, .int .i64 x.2.1, .int .i64 x.2.2] 87))) := Lib.hid ((Below.refl _ _).alloc (Nat.le_refl _) _)
  rw [HD.out]
  cases b1
  · go_enter Tryd.func66, Tryd.ntmps66
    go_wp2_with fail
    refine (HI1.out _).mono ?_
    rintro e w1 ⟨rfl, rfl⟩
    go_wp2
    go_ret
    exact ⟨rfl, HB0.out⟩
  cases b2
  · go_enter Tryd.func66, Tryd.ntmps66
    go_wp2_with fail
    refine (HI1.out _).mono ?_
    rintro e w1 ⟨rfl, rfl⟩
    go_wp2_with fail
    refine (HI2.out _).mono ?_
    rintro e w1 ⟨rfl, rfl⟩
    go_wp2
    go_ret
    exact ⟨rfl, HB0.out⟩
  go_enter Tryd.func66, Tryd.ntmps66
  go_wp2_with fail
  refine (HI1.out _).mono ?_
  rintro e w1 ⟨rfl, rfl⟩
  go_wp2_with fail
  refine (HI2.out _).mono ?_
  rintro e w1 ⟨rfl, rfl⟩
  go_wp2_with fail
  refine (HT.out _).mono ?_
  rintro e w1 ⟨rfl, rfl⟩
  go_wp2
  go_ret
  exact ⟨rfl, HB0.out⟩
set_option maxRecDepth 100000 in
theorem find_none {l : List HoldD} {id : ByteArray} (h : ∀ x ∈ l, x.1 ≠ id) : findH l id = -1 := by
  have h1 : l.findIdx? (fun x => decide (x.1 = id)) = none := List.findIdx?_eq_none_iff.2 fun x hx => decide_eq_false (h x hx)
  unfold findH
  rw [h1]
set_option maxRecDepth 100000 in
theorem find_some {l : List HoldD} {id : ByteArray} {i : Nat} {x : HoldD} (hx : l[i]? = some x) (he : x.1 = id) (h : ∀ y ∈ l.take i, y.1 ≠ id) : findH l id = (i : Int) := by
  obtain ⟨hi, rfl⟩ := List.getElem?_eq_some_iff.1 hx
  have h1 : l.findIdx? (fun x => decide (x.1 = id)) = some i := by
    rw [List.findIdx?_eq_some_iff_getElem]
    refine ⟨hi, decide_eq_true he, fun j hj => ?_⟩
    have hm : l[j] ∈ l.take i := by rw [List.mem_take_iff_getElem]; exact ⟨j, by omega, rfl⟩
    simpa using h _ hm
  unfold findH
  rw [h1]
end Go.Proofs.YtkbakcnhhlmpkaaDoor
