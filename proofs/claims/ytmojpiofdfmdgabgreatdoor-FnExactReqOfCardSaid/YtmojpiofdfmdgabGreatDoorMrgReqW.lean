/- l11Which of the reference; the text has two bytes at least. -/
import Derived.Test.YtmojpiofdfmdgabGreatDoorMrgReqP
import Derived.Test.YtmojpiofdfmdgabGreatDoorMrg3
set_option linter.unusedVariables false
namespace Go.Proofs.YtmojpiofdfmdgabGreatDoor
open Go.ChangeShapes Go.WideShapes Go.ChangeAt Go.RowKit

set_option maxRecDepth 100000 in
set_option maxHeartbeats 8000000 in
theorem l11Which_any (a s : ByteArray) (w : World) (h2 : 2 ≤ s.size) (hs : s.size ≤ maxLen) : Calls Tryz.prog 21 #[.string a, .string s] w fun e w' => e = .returned (.int .i64 (whichL a (s.extract 0 2))) ∧ Below w.heap.size w w' := by
  have h2' : (2 : Int) ≤ (s.size : Int) := by omega
  have HSZ := Lib.hid hs
  unfold maxLen at hs
  generalize hc : s.extract 0 2 = c
  go_enter Tryz.func21, Tryz.ntmps21
  go_wp2
  go_loopw [5] (fun iv wr => ∃ i : Nat, 1 ≤ i ∧ i ≤ 9 ∧ iv = .int .i64 i ∧ Hid (∀ j : Int, 1 ≤ j → j < i → ¬ (opTxt 0 j = a ∧ opTxt 1 j = c)) ∧ Hid (Below w.heap.size w wr) ∧ w.heap.size ≤ wr.heap.size) (fun iv _ => 9 - (intOf iv).toNat)
  case atStart => exact ⟨1, Nat.le_refl _, by omega, rfl, Lib.hid (fun j h1 h2 => absurd h2 (by omega)), Lib.hid (Below.refl _ _), Nat.le_refl _⟩
  case round =>
    obtain ⟨i, hi1, hi, rfl, HN, HB, hz⟩ := hrel
    by_cases hin : i < 9
    · have g1 : (i : Int) ≤ 8 := by omega
      by_cases e1 : opTxt 0 (i : Int) = a
      · have e1' : ((opTxt 0 (i : Int)).toList == a.toList) = true := by rw [beq_iff_eq, e1]
        by_cases e2 : opTxt 1 (i : Int) = c
        · have e2' : ((opTxt 1 (i : Int)).toList == (s.extract 0 2).toList) = true := by rw [beq_iff_eq, e2, hc]
          have HR : Hid (whichL a c = i) := Lib.hid (by rw [← e1, ← e2]; exact which_hit (by omega))
          clear e1 e2 hc
          go_upto_region 4 with fail
          have HX : Hid (Ext wr wr.drew) := Lib.hid (Ext.refl wr).drew
          refine quiet_region (C := Ext wr) (by kernel_rfl) (by kernel_rfl) HX.out ?_
          repeat (first
            | go_big_quiet_skip
            | (go_big_quiet_want; go_big_quiet_op; go_big_quiet_on)
            | (go_big_quiet_want; go_big_quiet_op; apply Exists.intro; refine ⟨fun _ _ => rfl, ?_⟩; go_big_quiet_on)
            | (go_big_quiet_want
               apply Exists.intro
               refine ⟨fun V hV => ?_, ?_⟩
               (unfold Oper.quietAt
                go_simp
                go_at_call 45
                refine (specOpMti_any i V).mono ?_
                rintro e w4 ⟨rfl, hb⟩
                exact ⟨rfl, hV.step hb⟩)
               simp only [Act.put, List.setIfInBounds_toArray, List.set_cons_zero, List.set_cons_succ]
               go_big_quiet_on)
            | (go_big_quiet_want
               apply Exists.intro
               refine ⟨fun V hV => ?_, ?_⟩
               (unfold Oper.quietAt
                go_simp
                go_at_call 34
                refine (specOpCode_any i V).mono ?_
                rintro e w4 ⟨rfl, hb⟩
                exact ⟨rfl, hV.step hb⟩)
               simp only [Act.put, List.setIfInBounds_toArray, List.set_cons_zero, List.set_cons_succ]
               go_big_quiet_on)
            | fail)
          refine wpQuiet_nil ?_
          intro w2 hw2
          have z2 : wr.heap.size ≤ w2.heap.size := hw2.below.size
          have HB2 : Hid (Below w.heap.size w w2) := Lib.hid (HB.out.trans (hw2.below.mono hz))
          clear hw2
          go_wp2
          go_ret
          exact ⟨by rw [HR.out]; rfl, HB2.out⟩
        · have e2' : ((opTxt 1 (i : Int)).toList == (s.extract 0 2).toList) = false := str_no (by rw [hc]; exact e2)
          have HE : Hid (¬ (opTxt 0 (i : Int) = a ∧ opTxt 1 (i : Int) = c)) := Lib.hid fun h => e2 h.2
          clear e1 e2 hc
          go_upto_region 4 with fail
          have HX : Hid (Ext wr wr.drew) := Lib.hid (Ext.refl wr).drew
          refine quiet_region (C := Ext wr) (by kernel_rfl) (by kernel_rfl) HX.out ?_
          repeat (first
            | go_big_quiet_skip
            | (go_big_quiet_want; go_big_quiet_op; go_big_quiet_on)
            | (go_big_quiet_want; go_big_quiet_op; apply Exists.intro; refine ⟨fun _ _ => rfl, ?_⟩; go_big_quiet_on)
            | (go_big_quiet_want
               apply Exists.intro
               refine ⟨fun V hV => ?_, ?_⟩
               (unfold Oper.quietAt
                go_simp
                go_at_call 45
                refine (specOpMti_any i V).mono ?_
                rintro e w4 ⟨rfl, hb⟩
                exact ⟨rfl, hV.step hb⟩)
               simp only [Act.put, List.setIfInBounds_toArray, List.set_cons_zero, List.set_cons_succ]
               go_big_quiet_on)
            | (go_big_quiet_want
               apply Exists.intro
               refine ⟨fun V hV => ?_, ?_⟩
               (unfold Oper.quietAt
                go_simp
                go_at_call 34
                refine (specOpCode_any i V).mono ?_
                rintro e w4 ⟨rfl, hb⟩
                exact ⟨rfl, hV.step hb⟩)
               simp only [Act.put, List.setIfInBounds_toArray, List.set_cons_zero, List.set_cons_succ]
               go_big_quiet_on)
            | fail)
          refine wpQuiet_nil ?_
          intro w2 hw2
          have z2 : wr.heap.size ≤ w2.heap.size := hw2.below.size
          have HB2 : Hid (Below w.heap.size w w2) := Lib.hid (HB.out.trans (hw2.below.mono hz))
          clear hw2
          go_wp2
          go_roundw
          case rel => exact ⟨i + 1, by omega, by omega, by go_num, Lib.hid (fun j h1 h2 => by
            rcases Int.lt_or_le j i with h | h
            · exact HN.out j h1 h
            · obtain rfl : j = i := by omega
              exact HE.out), HB2, Nat.le_trans hz z2⟩
          case measure => simp [intOf] <;> omega
      · have e1' : ((opTxt 0 (i : Int)).toList == a.toList) = false := str_no e1
        have HE : Hid (¬ (opTxt 0 (i : Int) = a ∧ opTxt 1 (i : Int) = c)) := Lib.hid fun h => e1 h.1
        clear e1
        go_upto_region 4 with fail
        have HX : Hid (Ext wr wr.drew) := Lib.hid (Ext.refl wr).drew
        refine quiet_region (C := Ext wr) (by kernel_rfl) (by kernel_rfl) HX.out ?_
        repeat (first
          | go_big_quiet_skip
          | (go_big_quiet_want; go_big_quiet_op; go_big_quiet_on)
          | (go_big_quiet_want; go_big_quiet_op; apply Exists.intro; refine ⟨fun _ _ => rfl, ?_⟩; go_big_quiet_on)
          | (go_big_quiet_want
             apply Exists.intro
             refine ⟨fun V hV => ?_, ?_⟩
             (unfold Oper.quietAt
              go_simp
              go_at_call 45
              refine (specOpMti_any i V).mono ?_
              rintro e w4 ⟨rfl, hb⟩
              exact ⟨rfl, hV.step hb⟩)
             simp only [Act.put, List.setIfInBounds_toArray, List.set_cons_zero, List.set_cons_succ]
             go_big_quiet_on)
          | (go_big_quiet_want
             apply Exists.intro
             refine ⟨fun V hV => ?_, ?_⟩
             (unfold Oper.quietAt
              go_simp
              go_at_call 34
              refine (specOpCode_any i V).mono ?_
              rintro e w4 ⟨rfl, hb⟩
              exact ⟨rfl, hV.step hb⟩)
             simp only [Act.put, List.setIfInBounds_toArray, List.set_cons_zero, List.set_cons_succ]
             go_big_quiet_on)
          | fail)
        refine wpQuiet_nil ?_
        intro w2 hw2
        have z2 : wr.heap.size ≤ w2.heap.size := hw2.below.size
        have HB2 : Hid (Below w.heap.size w w2) := Lib.hid (HB.out.trans (hw2.below.mono hz))
        clear hw2
        go_wp2
        go_roundw
        case rel => exact ⟨i + 1, by omega, by omega, by go_num, Lib.hid (fun j h1 h2 => by
          rcases Int.lt_or_le j i with h | h
          · exact HN.out j h1 h
          · obtain rfl : j = i := by omega
            exact HE.out), HB2, Nat.le_trans hz z2⟩
        case measure => simp [intOf] <;> omega
    · obtain rfl : i = 9 := by omega
      have HR := Lib.hid (which_none HN.out)
      go_wp2
      go_ret
      exact ⟨by rw [HR.out]; rfl, HB.out⟩
end Go.Proofs.YtmojpiofdfmdgabGreatDoor
