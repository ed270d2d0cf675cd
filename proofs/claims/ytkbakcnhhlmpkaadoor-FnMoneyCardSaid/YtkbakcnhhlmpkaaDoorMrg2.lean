/- AcctOk of the reference; no conditions. -/
import Derived.Test.YtkbakcnhhlmpkaaDoorMrg1
import Derived.Test.YtkbakcnhhlmpkaaDoorHoldK
import Derived.Test.YtkbakcnhhlmpkaaDoorRingS
import Derived.Test.YtkbakcnhhlmpkaaDoorSat
import Derived.Test.YtkbakcnhhlmpkaaDoorQuiet
import Derived.Deep.DeepCutAuto
import Derived.Test.YtkbakcnhhlmpkaaDoorHoldA
import Derived.Test.YtkbakcnhhlmpkaaDoorRingN
import Derived.Test.YtkbakcnhhlmpkaaDoorMemT
import Derived.Test.YtkbakcnhhlmpkaaDoorRingL
import Derived.Test.YtkbakcnhhlmpkaaDoorMon
import Derived.Test.YtkbakcnhhlmpkaaDoorConv
import Derived.Lib.ItoaNum
import Derived.Lib.ItoaLen
import Derived.Test.YtkbakcnhhlmpkaaDoorBase
import Derived.Lib.LaidTab
import Derived.Test.YtkbakcnhhlmpkaaDoorShelf
import Derived.Lib.AppendIntMem
import Derived.BigQuiet
import Derived.Deep.QuietTactic
import Derived.Test.YtkbakcnhhlmpkaaDoorMem
set_option linter.unusedVariables false
namespace Go.Proofs.YtkbakcnhhlmpkaaDoor
open Go.ChangeShapes Go.WideShapes Go.ChangeAt Go.RowKit

def acctHead (a : AcctD) : Bool := acctIdB (aId a) && (inB (aLim a) 0 9007199254740992 && (inB (aMost a) 0 1000 && (inB (aSum a) 0 9007199254740992 && isMon (aPos a))))
def acctTail (a : AcctD) : Bool := holdsOk (aH a) && (ringOk (aR a) && (slotsOk (aS a) && decide (satVal (aPos a) (storedL (aH a)) ≤ aLim a)))
def acctOk (a : AcctD) : Bool := acctHead a && acctTail a
set_option maxRecDepth 100000 in
set_option maxHeartbeats 16000000 in
theorem specAcctOk_any (hi : Nat) (vh vc vs vl : Value) (a : AcctD) (w : World) (hz : acctSmall 1048576 a) (hbig : acctBig a) (h : AcctR.rd hi w (aCells a vh vc vs vl) a) (hh : hi ≤ w.heap.size) :
    Calls Tryd.prog 36 #[.agg #[.string (aId a), .int .i64 (aLim a), .int .i64 (aPos a), .int .i64 (aMost a), .int .i64 (aSum a), vh, .int .i64 (aR a).1, .int .i64 (aR a).2.1, vc, vs, vl]] w fun e w' => e = .returned (.bool (acctOk a)) ∧ Below w.heap.size w w' := by
  obtain ⟨vh0, vc0, vs0, vl0, hcs, r1, r2, r3, r4⟩ := acct_rd h
  simp only [aCells, List.cons.injEq, and_true, true_and] at hcs
  obtain ⟨rfl, rfl, rfl, rfl⟩ := hcs
  clear h
  obtain ⟨z1, z2, z3, z4, z5⟩ := hz
  obtain ⟨y0, y1, y1', y2, y3, y4, y5⟩ := hbig
  obtain ⟨id, lim, pos, most, sum, hs, ⟨sp, hd, cs, ss⟩, sl⟩ := a
  have HE : Hid (acctOk (id, lim, pos, most, sum, hs, (sp, hd, cs, ss), sl) = ((acctIdB id && (inB lim 0 9007199254740992 && (inB most 0 1000 && (inB sum 0 9007199254740992 && isMon pos)))) && (holdsOk hs && (ringOk (sp, hd, cs, ss) && (slotsOk sl && decide (satVal pos (storedL hs) ≤ lim)))))) := Lib.hid rfl
  simp only [aId, aLim, aPos, aMost, aSum, aH, aS] at r1 r2 r3 r4 z1 z2 z3 z4 z5 y0 y1 y1' y2 y3 y4 y5 ⊢
  obtain ⟨AH, cH, rfl, -⟩ := Rep.slice_form r1
  obtain ⟨AC, cC, rfl, -⟩ := r2.form
  obtain ⟨AS, cS, rfl, -⟩ := r3.form
  obtain ⟨AL, cL, rfl, -⟩ := Rep.slice_form r4
  have HQ1 := Lib.hid (fun W (hW : Below w.heap.size w W) => specHoldsOk_any hi _ hs W z1 y1' (Rep.below (R := HoldsR) r1 hW hh) (Nat.le_trans hh hW.size))
  have HQ2 := Lib.hid (fun W (hW : Below w.heap.size w W) => specRingOk_any hi _ _ (sp, hd, cs, ss) W (r2.below hW hh) (r3.below hW hh) (Nat.le_trans hh hW.size) z2 z3)
  have HQ3 := Lib.hid (fun W (hW : Below w.heap.size w W) => specSlotsOk_any hi _ sl W (by omega) (fun x hx => ⟨(y5 x hx).1, (y5 x hx).2.1⟩) (Rep.below (R := SlotsR) r4 hW hh) (Nat.le_trans hh hW.size))
  have HQ4 := Lib.hid (fun W (hW : Below w.heap.size w W) => specStored_any hi _ hs W z1 (Rep.below (R := HoldsR) r1 hW hh) (Nat.le_trans hh hW.size))
  have HQ5 := Lib.hid (fun W => specSat_any pos (storedL hs) W)
  have HI0 := Lib.hid (fun W => specAcctIdOk_any id W y0)
  have HI1 := Lib.hid (fun W => inB_any lim 0 9007199254740992 W)
  have HI2 := Lib.hid (fun W => inB_any most 0 1000 W)
  have HI3 := Lib.hid (fun W => inB_any sum 0 9007199254740992 W)
  have HI4 := Lib.hid (fun W => l01Money_any pos W)
  clear r1 r2 r3 r4 y0 y1 y1' y2 y3 y4 y5 z5
  generalize acctIdB id = b0 at HE HI0
  generalize inB lim 0 9007199254740992 = b1 at HE HI1
  generalize inB most 0 1000 = b2 at HE HI2
  generalize inB sum 0 9007199254740992 = b3 at HE HI3
  generalize isMon pos = b4 at HE HI4
  generalize holdsOk hs = t1 at HE HQ1
  generalize ringOk (sp, hd, cs, ss) = t2 at HE HQ2
  generalize slotsOk sl = t3 at HE HQ3
  generalize satVal pos (storedL hs) = sv at HE HQ5
  generalize storedL hs = st at HQ4 HQ5
  go_enter Tryd.func36, Tryd.ntmps36
  go_upto_region 1 with fail
  obtain ⟨W, hW⟩ : ∃ W, W = w.alloc (.cells #[.string id, .int .i64 lim, .int .i64 pos, .int .i64 most, .int .i64 sum, .slice AH hs.length cH, .int .i64 sp, .int .i64 hd, .slice AC cs.length cC, .slice AS ss.length cS, .slice AL sl.length cL] 29) := ⟨_, rfl⟩
  have bb : bk W w.heap.size 29 [.string id, .int .i64 lim, .int .i64 pos, .int .i64 most, .int .i64 sum, .slice AH hs.length cH, .int .i64 sp, .int .i64 hd, .slice AC cs.length cC, .slice AS ss.length cS, .slice AL sl.length cL] := by rw [hW]; exact bk.new w _ _
  have HBW : Hid (Below w.heap.size w W) := Lib.hid (by rw [hW]; exact (Below.refl _ _).alloc (Nat.le_refl _) _)
  have x0 : w.heap.size + 1 ≤ W.heap.size := by rw [hW]; simp
  rw [← hW]
  clear hW
  obtain ⟨⟨p0, p1, p2, p3, p4, p5, p6, p7, p8, p9, p10⟩, -⟩ := bb.eleven
  have B0 := Lib.hid bb
  clear bb
  go_wp2_with fail
  refine (HI0.out W).mono ?_
  rintro e W3 ⟨rfl, hb3⟩
  have x3 := hb3.size
  have HB3 : Hid (Below w.heap.size w W3) := Lib.hid (HBW.out.trans (hb3.mono (by omega)))
  have B3 := Lib.hid (B0.out.below hb3 (by omega))
  clear hb3 HBW p0 p1 p2 p3 p4 p5 p6 p7 p8 p9 p10 B0
  obtain ⟨⟨p0, p1, p2, p3, p4, p5, p6, p7, p8, p9, p10⟩, -⟩ := B3.out.eleven
  cases b0
  · have HN := Lib.hid (HE.out.trans (show _ = false by simp))
    go_wp2
    go_ret
    exact ⟨by rw [HN.out]; rfl, HB3.out⟩
  go_wp2_with fail
  refine (HI1.out _).mono ?_
  rintro e w1 ⟨rfl, rfl⟩
  cases b1
  · have HN := Lib.hid (HE.out.trans (show _ = false by simp))
    go_wp2
    go_ret
    exact ⟨by rw [HN.out]; rfl, HB3.out⟩
  go_wp2_with fail
  refine (HI2.out _).mono ?_
  rintro e w1 ⟨rfl, rfl⟩
  cases b2
  · have HN := Lib.hid (HE.out.trans (show _ = false by simp))
    go_wp2
    go_ret
    exact ⟨by rw [HN.out]; rfl, HB3.out⟩
  go_wp2_with fail
  refine (HI3.out _).mono ?_
  rintro e w1 ⟨rfl, rfl⟩
  cases b3
  · have HN := Lib.hid (HE.out.trans (show _ = false by simp))
    go_wp2
    go_ret
    exact ⟨by rw [HN.out]; rfl, HB3.out⟩
  go_wp2_with fail
  refine (HI4.out _).mono ?_
  rintro e w1 ⟨rfl, rfl⟩
  cases b4
  · have HN := Lib.hid (HE.out.trans (show _ = false by simp))
    go_wp2
    go_ret
    exact ⟨by rw [HN.out]; rfl, HB3.out⟩
  have HE3 : Hid (acctOk (id, lim, pos, most, sum, hs, (sp, hd, cs, ss), sl) = (t1 && (t2 && (t3 && decide (sv ≤ lim))))) := Lib.hid (by rw [HE.out]; rfl)
  clear HE HI0 HI1 HI2 HI3 HI4
  go_upto_region 3 with fail
  have HX : Hid (Ext W3 W3.drew) := Lib.hid (Ext.refl W3).drew
  have HBX : Hid (∀ W, Ext W3 W → Below w.heap.size w W) := Lib.hid fun W hW => HB3.out.trans (hW.below.mono (by omega))
  have P0 := Lib.hid p0
  have P1 := Lib.hid p1
  have P2 := Lib.hid p2
  have P3 := Lib.hid p3
  have P4 := Lib.hid p4
  have P5 := Lib.hid p5
  have P6 := Lib.hid p6
  have P7 := Lib.hid p7
  have P8 := Lib.hid p8
  have P9 := Lib.hid p9
  have P10 := Lib.hid p10
  clear p0 p1 p2 p3 p4 p5 p6 p7 p8 p9 p10
  cases t1
  · refine quiet_region (C := Ext W3) (by kernel_rfl) (by kernel_rfl) HX.out ?_
    repeat (first
      | go_big_quiet_skip
      | (go_big_quiet_want; go_big_quiet_op; go_big_quiet_on)
      | (go_big_quiet_want; go_big_quiet_op; apply Exists.intro; refine ⟨fun _ _ => rfl, ?_⟩; go_big_quiet_on)
      | (go_big_quiet_want
         apply Exists.intro
         refine ⟨fun W hW => ?_, ?_⟩
         (have q1 := hW.cell P1.out (by omega)
          have q2 := hW.cell P2.out (by omega)
          have q5 := hW.cell P5.out (by omega)
          have q6 := hW.cell P6.out (by omega)
          have q7 := hW.cell P7.out (by omega)
          have q8 := hW.cell P8.out (by omega)
          have q9 := hW.cell P9.out (by omega)
          have q10 := hW.cell P10.out (by omega)
          unfold Oper.quietAt
          go_simp
          rfl)
         simp only [Act.put, List.setIfInBounds_toArray, List.set_cons_zero, List.set_cons_succ]
         go_big_quiet_on)
      | (go_big_quiet_want
         apply Exists.intro
         refine ⟨fun W hW => ?_, ?_⟩
         (unfold Oper.quietAt
          go_simp
          go_at_call 52
          refine (HQ1.out W (HBX.out W hW)).mono ?_
          rintro e w4 ⟨rfl, hb4⟩
          exact ⟨rfl, hW.step hb4⟩)
         simp only [Act.put, List.setIfInBounds_toArray, List.set_cons_zero, List.set_cons_succ]
         go_big_quiet_on)
      | (go_big_quiet_want
         apply Exists.intro
         refine ⟨fun W hW => ?_, ?_⟩
         (unfold Oper.quietAt
          go_simp
          go_at_call 53
          refine (HQ2.out W (HBX.out W hW)).mono ?_
          rintro e w4 ⟨rfl, hb4⟩
          exact ⟨rfl, hW.step hb4⟩)
         simp only [Act.put, List.setIfInBounds_toArray, List.set_cons_zero, List.set_cons_succ]
         go_big_quiet_on)
      | (go_big_quiet_want
         apply Exists.intro
         refine ⟨fun W hW => ?_, ?_⟩
         (unfold Oper.quietAt
          go_simp
          go_at_call 54
          refine (HQ3.out W (HBX.out W hW)).mono ?_
          rintro e w4 ⟨rfl, hb4⟩
          exact ⟨rfl, hW.step hb4⟩)
         simp only [Act.put, List.setIfInBounds_toArray, List.set_cons_zero, List.set_cons_succ]
         go_big_quiet_on)
      | (go_big_quiet_want
         apply Exists.intro
         refine ⟨fun W hW => ?_, ?_⟩
         (unfold Oper.quietAt
          go_simp
          go_at_call 25
          refine (HQ4.out W (HBX.out W hW)).mono ?_
          rintro e w4 ⟨rfl, hb4⟩
          exact ⟨rfl, hW.step hb4⟩)
         simp only [Act.put, List.setIfInBounds_toArray, List.set_cons_zero, List.set_cons_succ]
         go_big_quiet_on)
      | (go_big_quiet_want
         apply Exists.intro
         refine ⟨fun W hW => ?_, ?_⟩
         (unfold Oper.quietAt
          go_simp
          go_at_call 24
          refine (HQ5.out W).mono ?_
          rintro e w4 ⟨rfl, rfl⟩
          exact ⟨rfl, hW⟩)
         simp only [Act.put, List.setIfInBounds_toArray, List.set_cons_zero, List.set_cons_succ]
         go_big_quiet_on))
    refine wpQuiet_nil ?_
    intro W4 hW4
    go_wp2
    go_ret
    exact ⟨by rw [HE3.out]; rfl, HBX.out W4 hW4⟩
  cases t2
  · refine quiet_region (C := Ext W3) (by kernel_rfl) (by kernel_rfl) HX.out ?_
    repeat (first
      | go_big_quiet_skip
      | (go_big_quiet_want; go_big_quiet_op; go_big_quiet_on)
      | (go_big_quiet_want; go_big_quiet_op; apply Exists.intro; refine ⟨fun _ _ => rfl, ?_⟩; go_big_quiet_on)
      | (go_big_quiet_want
         apply Exists.intro
         refine ⟨fun W hW => ?_, ?_⟩
         (have q1 := hW.cell P1.out (by omega)
          have q2 := hW.cell P2.out (by omega)
          have q5 := hW.cell P5.out (by omega)
          have q6 := hW.cell P6.out (by omega)
          have q7 := hW.cell P7.out (by omega)
          have q8 := hW.cell P8.out (by omega)
          have q9 := hW.cell P9.out (by omega)
          have q10 := hW.cell P10.out (by omega)
          unfold Oper.quietAt
          go_simp
          rfl)
         simp only [Act.put, List.setIfInBounds_toArray, List.set_cons_zero, List.set_cons_succ]
         go_big_quiet_on)
      | (go_big_quiet_want
         apply Exists.intro
         refine ⟨fun W hW => ?_, ?_⟩
         (unfold Oper.quietAt
          go_simp
          go_at_call 52
          refine (HQ1.out W (HBX.out W hW)).mono ?_
          rintro e w4 ⟨rfl, hb4⟩
          exact ⟨rfl, hW.step hb4⟩)
         simp only [Act.put, List.setIfInBounds_toArray, List.set_cons_zero, List.set_cons_succ]
         go_big_quiet_on)
      | (go_big_quiet_want
         apply Exists.intro
         refine ⟨fun W hW => ?_, ?_⟩
         (unfold Oper.quietAt
          go_simp
          go_at_call 53
          refine (HQ2.out W (HBX.out W hW)).mono ?_
          rintro e w4 ⟨rfl, hb4⟩
          exact ⟨rfl, hW.step hb4⟩)
         simp only [Act.put, List.setIfInBounds_toArray, List.set_cons_zero, List.set_cons_succ]
         go_big_quiet_on)
      | (go_big_quiet_want
         apply Exists.intro
         refine ⟨fun W hW => ?_, ?_⟩
         (unfold Oper.quietAt
          go_simp
          go_at_call 54
          refine (HQ3.out W (HBX.out W hW)).mono ?_
          rintro e w4 ⟨rfl, hb4⟩
          exact ⟨rfl, hW.step hb4⟩)
         simp only [Act.put, List.setIfInBounds_toArray, List.set_cons_zero, List.set_cons_succ]
         go_big_quiet_on)
      | (go_big_quiet_want
         apply Exists.intro
         refine ⟨fun W hW => ?_, ?_⟩
         (unfold Oper.quietAt
          go_simp
          go_at_call 25
          refine (HQ4.out W (HBX.out W hW)).mono ?_
          rintro e w4 ⟨rfl, hb4⟩
          exact ⟨rfl, hW.step hb4⟩)
         simp only [Act.put, List.setIfInBounds_toArray, List.set_cons_zero, List.set_cons_succ]
         go_big_quiet_on)
      | (go_big_quiet_want
         apply Exists.intro
         refine ⟨fun W hW => ?_, ?_⟩
         (unfold Oper.quietAt
          go_simp
          go_at_call 24
          refine (HQ5.out W).mono ?_
          rintro e w4 ⟨rfl, rfl⟩
          exact ⟨rfl, hW⟩)
         simp only [Act.put, List.setIfInBounds_toArray, List.set_cons_zero, List.set_cons_succ]
         go_big_quiet_on))
    refine wpQuiet_nil ?_
    intro W4 hW4
    go_wp2
    go_ret
    exact ⟨by rw [HE3.out]; rfl, HBX.out W4 hW4⟩
  cases t3
  · refine quiet_region (C := Ext W3) (by kernel_rfl) (by kernel_rfl) HX.out ?_
    repeat (first
      | go_big_quiet_skip
      | (go_big_quiet_want; go_big_quiet_op; go_big_quiet_on)
      | (go_big_quiet_want; go_big_quiet_op; apply Exists.intro; refine ⟨fun _ _ => rfl, ?_⟩; go_big_quiet_on)
      | (go_big_quiet_want
         apply Exists.intro
         refine ⟨fun W hW => ?_, ?_⟩
         (have q1 := hW.cell P1.out (by omega)
          have q2 := hW.cell P2.out (by omega)
          have q5 := hW.cell P5.out (by omega)
          have q6 := hW.cell P6.out (by omega)
          have q7 := hW.cell P7.out (by omega)
          have q8 := hW.cell P8.out (by omega)
          have q9 := hW.cell P9.out (by omega)
          have q10 := hW.cell P10.out (by omega)
          unfold Oper.quietAt
          go_simp
          rfl)
         simp only [Act.put, List.setIfInBounds_toArray, List.set_cons_zero, List.set_cons_succ]
         go_big_quiet_on)
      | (go_big_quiet_want
         apply Exists.intro
         refine ⟨fun W hW => ?_, ?_⟩
         (unfold Oper.quietAt
          go_simp
          go_at_call 52
          refine (HQ1.out W (HBX.out W hW)).mono ?_
          rintro e w4 ⟨rfl, hb4⟩
          exact ⟨rfl, hW.step hb4⟩)
         simp only [Act.put, List.setIfInBounds_toArray, List.set_cons_zero, List.set_cons_succ]
         go_big_quiet_on)
      | (go_big_quiet_want
         apply Exists.intro
         refine ⟨fun W hW => ?_, ?_⟩
         (unfold Oper.quietAt
          go_simp
          go_at_call 53
          refine (HQ2.out W (HBX.out W hW)).mono ?_
          rintro e w4 ⟨rfl, hb4⟩
          exact ⟨rfl, hW.step hb4⟩)
         simp only [Act.put, List.setIfInBounds_toArray, List.set_cons_zero, List.set_cons_succ]
         go_big_quiet_on)
      | (go_big_quiet_want
         apply Exists.intro
         refine ⟨fun W hW => ?_, ?_⟩
         (unfold Oper.quietAt
          go_simp
          go_at_call 54
          refine (HQ3.out W (HBX.out W hW)).mono ?_
          rintro e w4 ⟨rfl, hb4⟩
          exact ⟨rfl, hW.step hb4⟩)
         simp only [Act.put, List.setIfInBounds_toArray, List.set_cons_zero, List.set_cons_succ]
         go_big_quiet_on)
      | (go_big_quiet_want
         apply Exists.intro
         refine ⟨fun W hW => ?_, ?_⟩
         (unfold Oper.quietAt
          go_simp
          go_at_call 25
          refine (HQ4.out W (HBX.out W hW)).mono ?_
          rintro e w4 ⟨rfl, hb4⟩
          exact ⟨rfl, hW.step hb4⟩)
         simp only [Act.put, List.setIfInBounds_toArray, List.set_cons_zero, List.set_cons_succ]
         go_big_quiet_on)
      | (go_big_quiet_want
         apply Exists.intro
         refine ⟨fun W hW => ?_, ?_⟩
         (unfold Oper.quietAt
          go_simp
          go_at_call 24
          refine (HQ5.out W).mono ?_
          rintro e w4 ⟨rfl, rfl⟩
          exact ⟨rfl, hW⟩)
         simp only [Act.put, List.setIfInBounds_toArray, List.set_cons_zero, List.set_cons_succ]
         go_big_quiet_on))
    refine wpQuiet_nil ?_
    intro W4 hW4
    go_wp2
    go_ret
    exact ⟨by rw [HE3.out]; rfl, HBX.out W4 hW4⟩
  by_cases hle : sv ≤ lim
  · refine quiet_region (C := Ext W3) (by kernel_rfl) (by kernel_rfl) HX.out ?_
    repeat (first
      | go_big_quiet_skip
      | (go_big_quiet_want; go_big_quiet_op; go_big_quiet_on)
      | (go_big_quiet_want; go_big_quiet_op; apply Exists.intro; refine ⟨fun _ _ => rfl, ?_⟩; go_big_quiet_on)
      | (go_big_quiet_want
         apply Exists.intro
         refine ⟨fun W hW => ?_, ?_⟩
         (have q1 := hW.cell P1.out (by omega)
          have q2 := hW.cell P2.out (by omega)
          have q5 := hW.cell P5.out (by omega)
          have q6 := hW.cell P6.out (by omega)
          have q7 := hW.cell P7.out (by omega)
          have q8 := hW.cell P8.out (by omega)
          have q9 := hW.cell P9.out (by omega)
          have q10 := hW.cell P10.out (by omega)
          unfold Oper.quietAt
          go_simp
          rfl)
         simp only [Act.put, List.setIfInBounds_toArray, List.set_cons_zero, List.set_cons_succ]
         go_big_quiet_on)
      | (go_big_quiet_want
         apply Exists.intro
         refine ⟨fun W hW => ?_, ?_⟩
         (unfold Oper.quietAt
          go_simp
          go_at_call 52
          refine (HQ1.out W (HBX.out W hW)).mono ?_
          rintro e w4 ⟨rfl, hb4⟩
          exact ⟨rfl, hW.step hb4⟩)
         simp only [Act.put, List.setIfInBounds_toArray, List.set_cons_zero, List.set_cons_succ]
         go_big_quiet_on)
      | (go_big_quiet_want
         apply Exists.intro
         refine ⟨fun W hW => ?_, ?_⟩
         (unfold Oper.quietAt
          go_simp
          go_at_call 53
          refine (HQ2.out W (HBX.out W hW)).mono ?_
          rintro e w4 ⟨rfl, hb4⟩
          exact ⟨rfl, hW.step hb4⟩)
         simp only [Act.put, List.setIfInBounds_toArray, List.set_cons_zero, List.set_cons_succ]
         go_big_quiet_on)
      | (go_big_quiet_want
         apply Exists.intro
         refine ⟨fun W hW => ?_, ?_⟩
         (unfold Oper.quietAt
          go_simp
          go_at_call 54
          refine (HQ3.out W (HBX.out W hW)).mono ?_
          rintro e w4 ⟨rfl, hb4⟩
          exact ⟨rfl, hW.step hb4⟩)
         simp only [Act.put, List.setIfInBounds_toArray, List.set_cons_zero, List.set_cons_succ]
         go_big_quiet_on)
      | (go_big_quiet_want
         apply Exists.intro
         refine ⟨fun W hW => ?_, ?_⟩
         (unfold Oper.quietAt
          go_simp
          go_at_call 25
          refine (HQ4.out W (HBX.out W hW)).mono ?_
          rintro e w4 ⟨rfl, hb4⟩
          exact ⟨rfl, hW.step hb4⟩)
         simp only [Act.put, List.setIfInBounds_toArray, List.set_cons_zero, List.set_cons_succ]
         go_big_quiet_on)
      | (go_big_quiet_want
         apply Exists.intro
         refine ⟨fun W hW => ?_, ?_⟩
         (unfold Oper.quietAt
          go_simp
          go_at_call 24
          refine (HQ5.out W).mono ?_
          rintro e w4 ⟨rfl, rfl⟩
          exact ⟨rfl, hW⟩)
         simp only [Act.put, List.setIfInBounds_toArray, List.set_cons_zero, List.set_cons_succ]
         go_big_quiet_on))
    refine wpQuiet_nil ?_
    intro W4 hW4
    go_wp2
    go_ret
    exact ⟨by rw [HE3.out]; simp [hle], HBX.out W4 hW4⟩
  · refine quiet_region (C := Ext W3) (by kernel_rfl) (by kernel_rfl) HX.out ?_
    repeat (first
      | go_big_quiet_skip
      | (go_big_quiet_want; go_big_quiet_op; go_big_quiet_on)
      | (go_big_quiet_want; go_big_quiet_op; apply Exists.intro; refine ⟨fun _ _ => rfl, ?_⟩; go_big_quiet_on)
      | (go_big_quiet_want
         apply Exists.intro
         refine ⟨fun W hW => ?_, ?_⟩
         (have q1 := hW.cell P1.out (by omega)
          have q2 := hW.cell P2.out (by omega)
          have q5 := hW.cell P5.out (by omega)
          have q6 := hW.cell P6.out (by omega)
          have q7 := hW.cell P7.out (by omega)
          have q8 := hW.cell P8.out (by omega)
          have q9 := hW.cell P9.out (by omega)
          have q10 := hW.cell P10.out (by omega)
          unfold Oper.quietAt
          go_simp
          rfl)
         simp only [Act.put, List.setIfInBounds_toArray, List.set_cons_zero, List.set_cons_succ]
         go_big_quiet_on)
      | (go_big_quiet_want
         apply Exists.intro
         refine ⟨fun W hW => ?_, ?_⟩
         (unfold Oper.quietAt
          go_simp
          go_at_call 52
          refine (HQ1.out W (HBX.out W hW)).mono ?_
          rintro e w4 ⟨rfl, hb4⟩
          exact ⟨rfl, hW.step hb4⟩)
         simp only [Act.put, List.setIfInBounds_toArray, List.set_cons_zero, List.set_cons_succ]
         go_big_quiet_on)
      | (go_big_quiet_want
         apply Exists.intro
         refine ⟨fun W hW => ?_, ?_⟩
         (unfold Oper.quietAt
          go_simp
          go_at_call 53
          refine (HQ2.out W (HBX.out W hW)).mono ?_
          rintro e w4 ⟨rfl, hb4⟩
          exact ⟨rfl, hW.step hb4⟩)
         simp only [Act.put, List.setIfInBounds_toArray, List.set_cons_zero, List.set_cons_succ]
         go_big_quiet_on)
      | (go_big_quiet_want
         apply Exists.intro
         refine ⟨fun W hW => ?_, ?_⟩
         (unfold Oper.quietAt
          go_simp
          go_at_call 54
          refine (HQ3.out W (HBX.out W hW)).mono ?_
          rintro e w4 ⟨rfl, hb4⟩
          exact ⟨rfl, hW.step hb4⟩)
         simp only [Act.put, List.setIfInBounds_toArray, List.set_cons_zero, List.set_cons_succ]
         go_big_quiet_on)
      | (go_big_quiet_want
         apply Exists.intro
         refine ⟨fun W hW => ?_, ?_⟩
         (unfold Oper.quietAt
          go_simp
          go_at_call 25
          refine (HQ4.out W (HBX.out W hW)).mono ?_
          rintro e w4 ⟨rfl, hb4⟩
          exact ⟨rfl, hW.step hb4⟩)
         simp only [Act.put, List.setIfInBounds_toArray, List.set_cons_zero, List.set_cons_succ]
         go_big_quiet_on)
      | (go_big_quiet_want
         apply Exists.intro
         refine ⟨fun W hW => ?_, ?_⟩
         (unfold Oper.quietAt
          go_simp
          go_at_call 24
          refine (HQ5.out W).mono ?_
          rintro e w4 ⟨rfl, rfl⟩
          exact ⟨rfl, hW⟩)
         simp only [Act.put, List.setIfInBounds_toArray, List.set_cons_zero, List.set_cons_succ]
         go_big_quiet_on))
    refine wpQuiet_nil ?_
    intro W4 hW4
    go_wp2
    go_ret
    exact ⟨by rw [HE3.out]; simp [hle], HBX.out W4 hW4⟩
end Go.Proofs.YtkbakcnhhlmpkaaDoor
/- AcctNew of the reference; no conditions. -/
set_option linter.unusedVariables false
namespace Go.Proofs.YtkbakcnhhlmpkaaDoor
open Go.ChangeShapes Go.WideShapes Go.ChangeAt Go.RowKit

set_option maxRecDepth 100000 in
theorem slots_none (lo hi : Nat) (w : World) : SlotsR.mine lo hi w [.slice none 0 0] [] := ⟨[], ⟨none, 0, rfl, Nat.le_refl _, .inl ⟨rfl, rfl⟩⟩, List.nodup_nil, by simp⟩
abbrev acctNil : AcctD := (⟨#[]⟩, 0, 0, 0, 0, [], (0, 0, [], []), [])
abbrev acctFresh (id : ByteArray) (lim most sum : Int) (r : RingD) : AcctD := (id, lim, 0, most, sum, [], r, [])
def acctNew (id : ByteArray) (lim most sum n sp : Int) : AcctD × Bool := if ((ringNew n sp).2 && acctOk (acctFresh id lim most sum (ringNew n sp).1)) = true then (acctFresh id lim most sum (ringNew n sp).1, true) else (acctNil, false)
/-- an account and a truth as they are given back -/
def acctRes (a : AcctD) (ok : Bool) (w : World) (e : Ending) (w' : World) : Prop := ∃ vh vc vs vl, e = .returned (.tuple #[.agg #[.string (aId a), .int .i64 (aLim a), .int .i64 (aPos a), .int .i64 (aMost a), .int .i64 (aSum a), vh, .int .i64 (aR a).1, .int .i64 (aR a).2.1, vc, vs, vl], .bool ok]) ∧ AcctR.mine w.heap.size w'.heap.size w' (aCells a vh vc vs vl) a ∧ Below w.heap.size w w'
set_option maxRecDepth 100000 in
set_option maxHeartbeats 4000000 in
theorem specAcctNew_any (id : ByteArray) (lim most sum n sp : Int) (w : World) (hid : id.size ≤ maxLen) :
    Calls Tryd.prog 19 #[.string id, .int .i64 lim, .int .i64 most, .int .i64 sum, .int .i64 n, .int .i64 sp] w (acctRes (acctNew id lim most sum n sp).1 (acctNew id lim most sum n sp).2 w) := by
  have HRN := Lib.hid (fun W => specRingNew_any n sp W)
  have hl := ringNew_len n sp
  have HOK := Lib.hid (fun (hi : Nat) (vc vs : Value) (W : World) (h1 : rd .i64 hi W vc (ringNew n sp).1.2.2.1) (h2 : rd .i64 hi W vs (ringNew n sp).1.2.2.2) (hW : hi ≤ W.heap.size) => specAcctOk_any hi (.slice none 0 0) vc vs (.slice none 0 0) (acctFresh id lim most sum (ringNew n sp).1) W ⟨Nat.zero_le _, Nat.le_trans hl.1 (by decide), Nat.le_trans hl.2 (by decide), Nat.zero_le _, fun x hx => (by cases hx)⟩ ⟨hid, Nat.zero_le _, fun x hx => (by cases hx), Nat.le_trans hl.1 (by decide), Nat.le_trans hl.2 (by decide), Nat.zero_le _, fun x hx => (by cases hx)⟩ (acct_rd_of (holds_none 0 hi W).rd h1 h2 (slots_none 0 hi W).rd) hW)
  clear hl hid
  have HD : Hid (acctNew id lim most sum n sp = if ((ringNew n sp).2 && acctOk (acctFresh id lim most sum (ringNew n sp).1)) = true then (acctFresh id lim most sum (ringNew n sp).1, true) else (acctNil, false)) := Lib.hid rfl
  generalize acctOk (acctFresh id lim most sum (ringNew n sp).1) = ao at HD HOK
  generalize acctNew id lim most sum n sp = an at HD ⊢
  obtain ⟨⟨r, ok⟩, hr⟩ : ∃ r, r = ringNew n sp := ⟨_, rfl⟩
  rw [← hr] at HD HOK HRN
  clear hr
  obtain ⟨sp2, hd, cs, ss⟩ := r
  simp only [aId, aLim, aPos, aMost, aSum] at HRN HOK
  go_enter Tryd.func19, Tryd.ntmps19
  go_upto_region 1 with fail
  obtain ⟨W, hW⟩ : ∃ W, W = w.alloc (.cells #[.string ⟨#[]⟩, .int .i64 0, .int .i64 0, .int .i64 0, .int .i64 0, .slice none 0 0, .int .i64 0, .int .i64 0, .slice none 0 0, .slice none 0 0, .slice none 0 0] 29) := ⟨_, rfl⟩
  have b0 : bk W w.heap.size 29 [.string ⟨#[]⟩, .int .i64 0, .int .i64 0, .int .i64 0, .int .i64 0, .slice none 0 0, .int .i64 0, .int .i64 0, .slice none 0 0, .slice none 0 0, .slice none 0 0] := by rw [hW]; exact bk.new w _ _
  have HB0 : Hid (Below w.heap.size w W) := Lib.hid (by rw [hW]; exact (Below.refl _ _).alloc (Nat.le_refl _) _)
  rw [← hW]
  clear hW
  have y0 := b0.lt
  have B0 := Lib.hid b0
  clear b0
  go_wp2_with fail
  refine (HRN.out W).mono ?_
  rintro e w1 ⟨vc, vs, rfl, hm1, hb1⟩
  obtain ⟨xc, xs, hcs, q2, q3⟩ := ring_rd hm1.rd
  simp only [List.cons.injEq, and_true, true_and] at hcs
  obtain ⟨rfl, rfl⟩ := hcs
  obtain ⟨A3, c3, rfl, -⟩ := q2.form
  obtain ⟨A4, c4, rfl, -⟩ := q3.form
  simp only at hm1 q2 q3 ⊢
  have z1 := hb1.size
  have HM1 := Lib.hid hm1
  have HQ := Lib.hid (And.intro q2 q3)
  have HB1 : Hid (Below w.heap.size w w1) := Lib.hid (HB0.out.trans (hb1.mono (by omega)))
  have C0 := Lib.hid (B0.out.below hb1 (by omega))
  clear hm1 hb1 HB0 HRN B0 q2 q3
  go_upto_region 3 with fail
  obtain ⟨W3, hW3⟩ : ∃ W3, W3 = (w1.alloc (.cells #[.int .i64 sp2, .int .i64 hd, .slice A3 cs.length c3, .slice A4 ss.length c4] 26)).alloc (.cells #[.string id, .int .i64 lim, .int .i64 0, .int .i64 most, .int .i64 sum, .slice none 0 0, .int .i64 sp2, .int .i64 hd, .slice A3 cs.length c3, .slice A4 ss.length c4, .slice none 0 0] 29) := ⟨_, rfl⟩
  have b2 : bk W3 (w1.heap.size + 1) 29 [.string id, .int .i64 lim, .int .i64 0, .int .i64 most, .int .i64 sum, .slice none 0 0, .int .i64 sp2, .int .i64 hd, .slice A3 cs.length c3, .slice A4 ss.length c4, .slice none 0 0] := by rw [hW3]; simpa using bk.new (w1.alloc _) 29 [.string id, .int .i64 lim, .int .i64 0, .int .i64 most, .int .i64 sum, .slice none 0 0, .int .i64 sp2, .int .i64 hd, .slice A3 cs.length c3, .slice A4 ss.length c4, .slice none 0 0]
  have hb3 : Below w1.heap.size w1 W3 := by rw [hW3]; exact ((Below.refl _ _).alloc (Nat.le_refl _) _).alloc (by simp) _
  rw [← hW3]
  clear hW3
  have z3 := b2.lt
  have B0 := Lib.hid (C0.out.below hb3 (by omega))
  have B2 := Lib.hid b2
  have HM3 := Lib.hid (HM1.out.below hb3 (Nat.le_refl _))
  have HQ3 := Lib.hid (And.intro (HQ.out.1.below hb3 (Nat.le_refl _)) (HQ.out.2.below hb3 (Nat.le_refl _)))
  have HB3 : Hid (Below w.heap.size w W3) := Lib.hid (HB1.out.trans (hb3.mono (by omega)))
  clear hb3 b2 C0 HM1 HB1 HQ
  cases ok
  · have b1 := B0.out
    replace HD : Hid (an = (acctNil, false)) := Lib.hid (by rw [HD.out]; rfl)
    clear HOK B0 B2 HQ3
    obtain ⟨⟨r0, r1, r2, r3, r4, r5, r6, r7, r8, r9, r10⟩, g0, g1, g2, g3, g4, g5, g6, g7, g8, g9, g10⟩ := b1.eleven
    clear b1
    go_wp2
    refine bodyPost_ret (v := .tuple #[.agg #[.string ⟨#[]⟩, .int .i64 0, .int .i64 0, .int .i64 0, .int .i64 0, .slice none 0 0, .int .i64 0, .int .i64 0, .slice none 0 0, .slice none 0 0, .slice none 0 0], .bool false]) (by simp [results, Tryd.results19, go_sem, r0, r1, r2, r3, r4, r5, r6, r7, r8, r9, r10]) rfl ?_
    have ht := (((((((((((Turned.refl w.heap.size (w.heap.size + 1) W3).set (b := w.heap.size) 0 (.string ⟨#[]⟩) (by omega) (by omega)).set (b := w.heap.size) 1 (.int .i64 0) (by omega) (by omega)).set (b := w.heap.size) 2 (.int .i64 0) (by omega) (by omega)).set (b := w.heap.size) 3 (.int .i64 0) (by omega) (by omega)).set (b := w.heap.size) 4 (.int .i64 0) (by omega) (by omega)).set (b := w.heap.size) 5 (.slice none 0 0) (by omega) (by omega)).set (b := w.heap.size) 6 (.int .i64 0) (by omega) (by omega)).set (b := w.heap.size) 7 (.int .i64 0) (by omega) (by omega)).set (b := w.heap.size) 8 (.slice none 0 0) (by omega) (by omega)).set (b := w.heap.size) 9 (.slice none 0 0) (by omega) (by omega)).set (b := w.heap.size) 10 (.slice none 0 0) (by omega) (by omega)
    have hsz := ht.size
    rw [HD.out]
    exact ⟨_, _, _, _, rfl, acct_mine_ivl (p1 := w.heap.size) (p2 := w.heap.size) (holds_none _ _ _) (ring_mine_of (nums_none _ _ _ _) (nums_none _ _ _ _) (by intro b h; cases h)) (slots_none _ _ _) (by omega) (by omega) (by omega), HB3.out.trans (ht.below (by omega) (by omega))⟩
  obtain ⟨⟨p0, p1, p2, p3, p4, p5, p6, p7, p8, p9, p10⟩, -⟩ := B2.out.eleven
  go_wp2_with fail
  refine (HOK.out w1.heap.size _ _ W3 HQ3.out.1 HQ3.out.2 (by omega)).mono ?_
  rintro e w4 ⟨rfl, hb4⟩
  have z4 := hb4.size
  have b1 := B0.out.below hb4 (by omega)
  have b2 := B2.out.below hb4 (by omega)
  have HM4 := Lib.hid (HM3.out.below hb4 (by omega))
  have HB4 : Hid (Below w.heap.size w w4) := Lib.hid (HB3.out.trans (hb4.mono (by omega)))
  clear hb4 HOK B0 B2 HQ3 HM3 HB3 p0 p1 p2 p3 p4 p5 p6 p7 p8 p9 p10
  cases ao
  · replace HD : Hid (an = (acctNil, false)) := Lib.hid (by rw [HD.out]; rfl)
    clear b2
    obtain ⟨⟨r0, r1, r2, r3, r4, r5, r6, r7, r8, r9, r10⟩, g0, g1, g2, g3, g4, g5, g6, g7, g8, g9, g10⟩ := b1.eleven
    clear b1
    go_wp2
    refine bodyPost_ret (v := .tuple #[.agg #[.string ⟨#[]⟩, .int .i64 0, .int .i64 0, .int .i64 0, .int .i64 0, .slice none 0 0, .int .i64 0, .int .i64 0, .slice none 0 0, .slice none 0 0, .slice none 0 0], .bool false]) (by simp [results, Tryd.results19, go_sem, r0, r1, r2, r3, r4, r5, r6, r7, r8, r9, r10]) rfl ?_
    have ht := (((((((((((Turned.refl w.heap.size (w.heap.size + 1) w4).set (b := w.heap.size) 0 (.string ⟨#[]⟩) (by omega) (by omega)).set (b := w.heap.size) 1 (.int .i64 0) (by omega) (by omega)).set (b := w.heap.size) 2 (.int .i64 0) (by omega) (by omega)).set (b := w.heap.size) 3 (.int .i64 0) (by omega) (by omega)).set (b := w.heap.size) 4 (.int .i64 0) (by omega) (by omega)).set (b := w.heap.size) 5 (.slice none 0 0) (by omega) (by omega)).set (b := w.heap.size) 6 (.int .i64 0) (by omega) (by omega)).set (b := w.heap.size) 7 (.int .i64 0) (by omega) (by omega)).set (b := w.heap.size) 8 (.slice none 0 0) (by omega) (by omega)).set (b := w.heap.size) 9 (.slice none 0 0) (by omega) (by omega)).set (b := w.heap.size) 10 (.slice none 0 0) (by omega) (by omega)
    have hsz := ht.size
    rw [HD.out]
    exact ⟨_, _, _, _, rfl, acct_mine_ivl (p1 := w.heap.size) (p2 := w.heap.size) (holds_none _ _ _) (ring_mine_of (nums_none _ _ _ _) (nums_none _ _ _ _) (by intro b h; cases h)) (slots_none _ _ _) (by omega) (by omega) (by omega), HB4.out.trans (ht.below (by omega) (by omega))⟩
  · replace HD : Hid (an = ((id, lim, 0, most, sum, [], (sp2, hd, cs, ss), []), true)) := Lib.hid (by rw [HD.out]; rfl)
    obtain ⟨⟨p0, p1, p2, p3, p4, p5, p6, p7, p8, p9, p10⟩, -⟩ := b2.eleven
    clear b2
    obtain ⟨⟨r0, r1, r2, r3, r4, r5, r6, r7, r8, r9, r10⟩, g0, g1, g2, g3, g4, g5, g6, g7, g8, g9, g10⟩ := b1.eleven
    clear b1
    go_wp2
    refine bodyPost_ret (v := .tuple #[.agg #[.string id, .int .i64 lim, .int .i64 0, .int .i64 most, .int .i64 sum, .slice none 0 0, .int .i64 sp2, .int .i64 hd, .slice A3 cs.length c3, .slice A4 ss.length c4, .slice none 0 0], .bool true]) (by simp [results, Tryd.results19, go_sem, r0, r1, r2, r3, r4, r5, r6, r7, r8, r9, r10]) rfl ?_
    have ht := (((((((((((Turned.refl w.heap.size (w.heap.size + 1) w4).set (b := w.heap.size) 0 (.string id) (by omega) (by omega)).set (b := w.heap.size) 1 (.int .i64 lim) (by omega) (by omega)).set (b := w.heap.size) 2 (.int .i64 0) (by omega) (by omega)).set (b := w.heap.size) 3 (.int .i64 most) (by omega) (by omega)).set (b := w.heap.size) 4 (.int .i64 sum) (by omega) (by omega)).set (b := w.heap.size) 5 (.slice none 0 0) (by omega) (by omega)).set (b := w.heap.size) 6 (.int .i64 sp2) (by omega) (by omega)).set (b := w.heap.size) 7 (.int .i64 hd) (by omega) (by omega)).set (b := w.heap.size) 8 (.slice A3 cs.length c3) (by omega) (by omega)).set (b := w.heap.size) 9 (.slice A4 ss.length c4) (by omega) (by omega)).set (b := w.heap.size) 10 (.slice none 0 0) (by omega) (by omega)
    have hsz := ht.size
    rw [HD.out]
    exact ⟨_, _, _, _, rfl, acct_mine_ivl (p1 := w.heap.size) (p2 := w1.heap.size) (holds_none _ _ _) ((HM4.out.turned ht (.inr (by omega)) (by omega)).mono (by omega) (by omega)) (slots_none _ _ _) (by omega) (by omega) (by omega), HB4.out.trans (ht.below (by omega) (by omega))⟩
end Go.Proofs.YtkbakcnhhlmpkaaDoor
/- A ring that has been fed with times that don't fall counts what came within its window: plain facts about lists of numbers; no conditions. -/
set_option linter.unusedVariables false
namespace Go.Proofs.YtkbakcnhhlmpkaaDoor
open Go.ChangeShapes Go.WideShapes Go.ChangeAt Go.RowKit

/-- a time and an amount -/
abbrev Ev := Int × Int
/-- what the weights of those with p come to -/
def tot (g : Ev → Int) (p : Ev → Bool) (ev : List Ev) : Int := ((ev.filter p).map g).sum
set_option maxRecDepth 100000 in
theorem tot_nil (g : Ev → Int) (p : Ev → Bool) : tot g p [] = 0 := rfl
set_option maxRecDepth 100000 in
theorem tot_cons (g : Ev → Int) (p : Ev → Bool) (e : Ev) (l : List Ev) : tot g p (e :: l) = (if p e = true then g e else 0) + tot g p l := by
  unfold tot
  rw [List.filter_cons]
  split <;> simp
set_option maxRecDepth 100000 in
theorem tot_snoc (g : Ev → Int) (p : Ev → Bool) (e : Ev) (l : List Ev) : tot g p (l ++ [e]) = tot g p l + (if p e = true then g e else 0) := by
  induction l with
  | nil => rw [List.nil_append, tot_cons, tot_nil]; omega
  | cons a l ih => rw [List.cons_append, tot_cons, tot_cons, ih]; omega
set_option maxRecDepth 100000 in
theorem tot_pos {g : Ev → Int} {p : Ev → Bool} {l : List Ev} (h : ∀ e ∈ l, 0 ≤ g e) : 0 ≤ tot g p l := by
  induction l with
  | nil => exact Int.le_refl 0
  | cons a l ih =>
    rw [tot_cons]
    have h1 := ih fun e he => h e (List.mem_cons_of_mem _ he)
    have h2 := h a (List.mem_cons_self ..)
    split <;> omega
set_option maxRecDepth 100000 in
theorem tot_le {g : Ev → Int} {p : Ev → Bool} {l : List Ev} {M : Int} (h : ∀ e ∈ l, 0 ≤ g e ∧ g e ≤ M) : tot g p l ≤ M * l.length := by
  induction l with
  | nil => rw [tot_nil]; simp
  | cons a l ih =>
    rw [tot_cons]
    have h1 := ih fun e he => h e (List.mem_cons_of_mem _ he)
    have h2 := h a (List.mem_cons_self ..)
    rw [List.length_cons]
    have h3 : M * ((l.length + 1 : Nat) : Int) = M * l.length + M := by rw [Int.natCast_add, Int.mul_add]; simp
    rw [h3]
    split <;> omega
set_option maxRecDepth 100000 in
theorem tot_or {g : Ev → Int} {p q r : Ev → Bool} {l : List Ev} (h : ∀ e ∈ l, r e = (p e || q e) ∧ (p e && q e) = false) : tot g r l = tot g p l + tot g q l := by
  induction l with
  | nil => rfl
  | cons a l ih =>
    rw [tot_cons, tot_cons, tot_cons, ih fun e he => h e (List.mem_cons_of_mem _ he)]
    obtain ⟨h1, h2⟩ := h a (List.mem_cons_self ..)
    rw [h1]
    cases hp : p a <;> cases hq : q a <;> simp_all <;> omega
set_option maxRecDepth 100000 in
theorem tot_none {g : Ev → Int} {p : Ev → Bool} {l : List Ev} (h : ∀ e ∈ l, p e = false) : tot g p l = 0 := by
  induction l with
  | nil => rfl
  | cons a l ih =>
    rw [tot_cons, ih fun e he => h e (List.mem_cons_of_mem _ he), h a (List.mem_cons_self ..)]
    rfl
/-- the bucket k of those whose time is in it -/
def atB (sp k : Int) (e : Ev) : Bool := decide (e.1 / sp = k)
def win (g : Ev → Int) (sp : Int) (n : Nat) (ev : List Ev) (H : Int) : List Int := (List.range n).map fun i => tot g (atB sp (H - (i : Nat))) ev
set_option maxRecDepth 100000 in
theorem winB_len (g : Ev → Int) (sp : Int) (n : Nat) (ev : List Ev) (H : Int) : (win g sp n ev H).length = n := by simp [win]
set_option maxRecDepth 100000 in
theorem win_at {g : Ev → Int} {sp : Int} {n i : Nat} {ev : List Ev} {H : Int} (h : i < n) : (win g sp n ev H)[i]? = some (tot g (atB sp (H - (i : Nat))) ev) := by
  unfold win
  rw [List.getElem?_map, List.getElem?_range h]; rfl
set_option maxRecDepth 100000 in
theorem win_getD {g : Ev → Int} {sp : Int} {n i : Nat} {ev : List Ev} {H : Int} (h : i < n) : (win g sp n ev H).getD i 0 = tot g (atB sp (H - (i : Nat))) ev := by
  rw [List.getD_eq_getElem?_getD, win_at h]; rfl
set_option maxRecDepth 100000 in
theorem win_shift {g : Ev → Int} {sp : Int} {n : Nat} {ev : List Ev} {H : Int} (k : Nat) (h : ∀ e ∈ ev, e.1 / sp ≤ H) : shiftL k (win g sp n ev H) = win g sp n ev (H + k) := by
  apply List.ext_getElem?
  intro i
  by_cases hi : i < n
  · rw [shiftL_at (by rw [winB_len]; exact hi), win_at hi]
    congr 1
    by_cases hk : k ≤ i
    · rw [if_pos hk, win_getD (by omega)]
      congr 2
      omega
    · rw [if_neg hk]
      refine (tot_none fun e he => ?_).symm
      have := h e he
      simp only [atB, decide_eq_false_iff_not]
      omega
  · rw [List.getElem?_eq_none (by rw [shiftL_len, winB_len]; omega), List.getElem?_eq_none (by rw [winB_len]; omega)]
set_option maxRecDepth 100000 in
/-- the program's sum is the sum where nothing is too big -/
theorem sat_exact {a b : Int} (ha : 0 ≤ a) (hb : 0 ≤ b) (h : a + b ≤ 4611686018427387904) : satVal a b = a + b := by
  have c1 : clampM a = a := by unfold clampM; rw [if_neg (by omega), if_neg (by omega)]
  have c2 : clampM b = b := by unfold clampM; rw [if_neg (by omega), if_neg (by omega)]
  unfold satVal
  rw [c1, c2, if_pos]
  simp only [addOk, isMon, Bool.and_eq_true, decide_eq_true_eq]
  omega
set_option maxRecDepth 100000 in
theorem win_add {g : Ev → Int} {sp : Int} {n : Nat} {ev : List Ev} {e : Ev} {H : Int} (hn : 1 ≤ n) (hH : e.1 / sp = H) (h0 : ∀ x ∈ ev, 0 ≤ g x) (he : 0 ≤ g e) (hM : tot g (atB sp H) ev + g e ≤ 4611686018427387904) :
    addOne (win g sp n ev H) (g e) = win g sp n (ev ++ [e]) H := by
  apply List.ext_getElem?
  intro i
  unfold addOne
  have h00 : H - ((0 : Nat) : Int) = H := by omega
  by_cases hi : i < n
  · rw [win_at hi, tot_snoc]
    by_cases hz : i = 0
    · subst hz
      rw [List.getElem?_set_self (by rw [winB_len]; exact hi), win_getD hi, h00, sat_exact (tot_pos h0) he hM, if_pos (by simp [atB, hH])]
    · rw [List.getElem?_set_ne (fun h => hz h.symm), win_at hi, if_neg (by simp only [atB, decide_eq_true_eq]; omega), Int.add_zero]
  · rw [List.getElem?_eq_none (by rw [List.length_set, winB_len]; omega), List.getElem?_eq_none (by rw [winB_len]; omega)]
/-- those within the window -/
def inW (sp lo : Int) (e : Ev) : Bool := decide (lo < e.1 / sp)
set_option maxRecDepth 100000 in
theorem win_total {g : Ev → Int} {sp : Int} {ev : List Ev} {H : Int} (hH : ∀ e ∈ ev, e.1 / sp ≤ H) (h0 : ∀ x ∈ ev, 0 ≤ g x) (hM : ∀ p : Ev → Bool, tot g p ev ≤ 4611686018427387904) :
    ∀ n : Nat, totalL (win g sp n ev H) = tot g (inW sp (H - n)) ev
  | 0 => by
    rw [show win g sp 0 ev H = [] from rfl]
    refine (tot_none fun e he => ?_).symm
    have := hH e he
    simp only [inW, decide_eq_false_iff_not]
    omega
  | n + 1 => by
    have h1 : win g sp (n + 1) ev H = win g sp n ev H ++ [tot g (atB sp (H - (n : Nat))) ev] := by
      unfold win
      rw [List.range_succ, List.map_append]; rfl
    have hs : tot g (inW sp (H - ((n + 1 : Nat) : Int))) ev = tot g (inW sp (H - n)) ev + tot g (atB sp (H - (n : Nat))) ev := by
      refine tot_or fun e he => ?_
      simp only [inW, atB]
      constructor
      · by_cases h1 : H - (n : Int) < e.1 / sp
        · rw [decide_eq_true h1, decide_eq_true (by omega)]; rfl
        · by_cases h2 : e.1 / sp = H - (n : Int)
          · rw [decide_eq_true h2, decide_eq_true (by omega), Bool.or_true]
          · rw [decide_eq_false h1, decide_eq_false h2, decide_eq_false (by omega)]; rfl
      · by_cases h1 : H - (n : Int) < e.1 / sp
        · rw [decide_eq_true h1, decide_eq_false (by omega)]; rfl
        · rw [decide_eq_false h1]; rfl
    have h2 := win_total hH h0 hM n
    have h3 := hM (inW sp (H - ((n + 1 : Nat) : Int)))
    rw [hs] at h3 ⊢
    rw [h1]
    unfold totalL at h2 ⊢
    rw [List.foldl_append, h2]
    exact sat_exact (tot_pos h0) (tot_pos h0) h3
/-- a ring that has been fed with these -/
def ringOf (sp : Int) (n : Nat) (ev : List Ev) (H : Int) : RingD := (sp, H, win (fun _ => 1) sp n ev H, win Prod.snd sp n ev H)
/-- what is asked of the events: none after H, amounts that are money, and few -/
structure Fed (sp : Int) (ev : List Ev) (H : Int) : Prop where
  head : 0 ≤ H ∧ H ≤ 1000000000
  le : ∀ e ∈ ev, e.1 / sp ≤ H
  amt : ∀ e ∈ ev, 0 ≤ e.2 ∧ e.2 ≤ 1000
  few : ev.length ≤ 1000
set_option maxRecDepth 100000 in
theorem Fed.one {sp : Int} {ev : List Ev} {H : Int} (h : Fed sp ev H) (p : Ev → Bool) : 0 ≤ tot (fun _ => 1) p ev ∧ tot (fun _ => 1) p ev ≤ 1000 := by
  refine ⟨tot_pos fun _ _ => by omega, ?_⟩
  have h1 := tot_le (g := fun _ => 1) (p := p) (l := ev) (M := 1) fun _ _ => by omega
  have h2 := h.few
  omega
set_option maxRecDepth 100000 in
theorem Fed.two {sp : Int} {ev : List Ev} {H : Int} (h : Fed sp ev H) (p : Ev → Bool) : 0 ≤ tot Prod.snd p ev ∧ tot Prod.snd p ev ≤ 1000000 := by
  refine ⟨tot_pos fun e he => (h.amt e he).1, ?_⟩
  have h1 := tot_le (g := Prod.snd) (p := p) (l := ev) (M := 1000) h.amt
  have h2 := h.few
  omega
set_option maxRecDepth 100000 in
theorem Fed.ok {sp : Int} {n : Nat} {ev : List Ev} {H : Int} (h : Fed sp ev H) (s1 : 1 ≤ sp) (s2 : sp ≤ 1000) (n1 : 1 ≤ n) (n2 : n ≤ 8) : ringOk (ringOf sp n ev H) = true := by
  have a1 : inB sp 1 1000 = true := decide_eq_true ⟨s1, s2⟩
  have a2 : inB ((win (fun _ => 1) sp n ev H).length : Int) 1 8 = true := by rw [winB_len]; exact decide_eq_true (by omega)
  have a3 : decide ((win Prod.snd sp n ev H).length = (win (fun _ => 1) sp n ev H).length) = true := decide_eq_true (by rw [winB_len, winB_len])
  have a4 : timeB H = true := decide_eq_true h.head
  have a5 : (win (fun _ => 1) sp n ev H).all isMon = true := List.all_eq_true.2 fun x hx => by
    obtain ⟨i, -, rfl⟩ := List.mem_map.1 hx
    have := h.one (atB sp (H - (i : Nat)))
    simp only [isMon, Bool.and_eq_true, decide_eq_true_eq]; omega
  have a6 : (win Prod.snd sp n ev H).all isMon = true := List.all_eq_true.2 fun x hx => by
    obtain ⟨i, -, rfl⟩ := List.mem_map.1 hx
    have := h.two (atB sp (H - (i : Nat)))
    simp only [isMon, Bool.and_eq_true, decide_eq_true_eq]; omega
  show ((inB sp 1 1000 && (inB ((win (fun _ => 1) sp n ev H).length : Int) 1 8 && (decide ((win Prod.snd sp n ev H).length = (win (fun _ => 1) sp n ev H).length) && timeB H))) && ((win (fun _ => 1) sp n ev H).all isMon && (win Prod.snd sp n ev H).all isMon)) = true
  rw [a1, a2, a3, a4, a5, a6]; rfl
set_option maxRecDepth 100000 in
theorem Fed.up {sp : Int} {ev : List Ev} {H K : Int} (h : Fed sp ev H) (h1 : H ≤ K) (h2 : K ≤ 1000000000) : Fed sp ev K := ⟨⟨by have := h.head; omega, h2⟩, fun e he => by have := h.le e he; omega, h.amt, h.few⟩
set_option maxRecDepth 100000 in
theorem Fed.take {sp : Int} {ev : List Ev} {H : Int} (h : Fed sp ev H) (i : Nat) : Fed sp (ev.take i) H := ⟨h.head, fun e he => h.le e (List.mem_of_mem_take he), fun e he => h.amt e (List.mem_of_mem_take he), by rw [List.length_take]; have := h.few; omega⟩
set_option maxRecDepth 100000 in
/-- it rolls to where the time is, never back -/
theorem Fed.roll {sp : Int} {n : Nat} {ev : List Ev} {H : Int} (h : Fed sp ev H) (s1 : 1 ≤ sp) (s2 : sp ≤ 1000) (n1 : 1 ≤ n) (n2 : n ≤ 8) {now : Int} (t : timeB now = true) : ringRoll (ringOf sp n ev H) now = ringOf sp n ev (if H < now / sp then now / sp else H) := by
  have hgo : ringGo (ringOf sp n ev H) now = decide (H < now / sp) := by
    unfold ringGo
    rw [h.ok s1 s2 n1 n2, t]; rfl
  unfold ringRoll
  rw [hgo]
  by_cases hl : H < now / sp
  · rw [decide_eq_true hl, if_pos rfl, if_pos hl]
    show (sp, now / sp, shiftL (now / sp - H).toNat (win (fun _ => 1) sp n ev H), shiftL (now / sp - H).toNat (win Prod.snd sp n ev H)) = (sp, now / sp, win (fun _ => 1) sp n ev (now / sp), win Prod.snd sp n ev (now / sp))
    rw [win_shift _ h.le, win_shift _ h.le]
    have : H + ((now / sp - H).toNat : Int) = now / sp := by omega
    rw [this]
  · rw [decide_eq_false hl, if_neg Bool.false_ne_true, if_neg hl]
set_option maxRecDepth 100000 in
theorem time_of {t : Int} (h : timeB t = true) : 0 ≤ t ∧ t ≤ 1000000000 := by simpa [timeB, inB] using h
set_option maxRecDepth 100000 in
theorem time_div {t sp : Int} (h : timeB t = true) (s1 : 1 ≤ sp) : 0 ≤ t / sp ∧ t / sp ≤ 1000000000 := by
  have h1 := time_of h
  have l0 : 0 ≤ t / sp := Int.ediv_nonneg h1.1 (by omega)
  have l1 : t / sp ≤ t := Int.ediv_le_self sp h1.1
  omega
set_option maxRecDepth 100000 in
/-- one more -/
theorem Fed.add {sp : Int} {n : Nat} {ev : List Ev} {H : Int} (h : Fed sp ev H) (s1 : 1 ≤ sp) (s2 : sp ≤ 1000) (n1 : 1 ≤ n) (n2 : n ≤ 8) {t a : Int} (ht : timeB t = true) (hl : H ≤ t / sp) (ha0 : 0 ≤ a) (ha1 : a ≤ 1000) (hf : ev.length + 1 ≤ 1000) :
    ringAdd (ringOf sp n ev H) t a = ringOf sp n (ev ++ [(t, a)]) (t / sp) ∧ Fed sp (ev ++ [(t, a)]) (t / sp) := by
  have hd := time_div ht s1
  have hu := h.up hl hd.2
  have hF : Fed sp (ev ++ [(t, a)]) (t / sp) := by
    refine ⟨hd, fun e he => ?_, fun e he => ?_, by rw [List.length_append]; exact hf⟩
    · rcases List.mem_append.1 he with he | he
      · exact hu.le e he
      · rw [List.mem_singleton.1 he]; exact Int.le_refl _
    · rcases List.mem_append.1 he with he | he
      · exact h.amt e he
      · rw [List.mem_singleton.1 he]; exact ⟨ha0, ha1⟩
  refine ⟨?_, hF⟩
  have hr : ringRoll (ringOf sp n ev H) t = ringOf sp n ev (t / sp) := by
    rw [h.roll s1 s2 n1 n2 ht]
    congr 1
    split <;> omega
  unfold ringAdd ringIn
  have hm : isMon a = true := by simp only [isMon, Bool.and_eq_true, decide_eq_true_eq]; omega
  rw [h.ok s1 s2 n1 n2, ht, hm, hr, show (true && (true && true)) = true from rfl, if_pos rfl]
  simp only [ringOf]
  have q1 := hu.one (atB sp (t / sp))
  have q2 := hu.two (atB sp (t / sp))
  have e1 := win_add (g := fun _ => 1) (sp := sp) (n := n) (ev := ev) (e := (t, a)) (H := t / sp) n1 rfl (fun _ _ => by omega) (by omega) (by omega)
  have e2 := win_add (g := Prod.snd) (sp := sp) (n := n) (ev := ev) (e := (t, a)) (H := t / sp) n1 rfl (fun e he => (h.amt e he).1) ha0 (by show tot Prod.snd _ _ + a ≤ _; omega)
  rw [e1, e2]
set_option maxRecDepth 100000 in
/-- what it counts -/
theorem Fed.total {sp : Int} {n : Nat} {ev : List Ev} {H : Int} (h : Fed sp ev H) (s1 : 1 ≤ sp) (s2 : sp ≤ 1000) (n1 : 1 ≤ n) (n2 : n ≤ 8) {now : Int} (t : timeB now = true) (hl : H ≤ now / sp) (sums : Bool) :
    ringTotal (ringOf sp n ev H) now sums = if sums = true then tot Prod.snd (inW sp (now / sp - n)) ev else tot (fun _ => 1) (inW sp (now / sp - n)) ev := by
  have hd := time_div t s1
  have hu := h.up hl hd.2
  have hr : ringRoll (ringOf sp n ev H) now = ringOf sp n ev (now / sp) := by
    rw [h.roll s1 s2 n1 n2 t]
    congr 1
    split <;> omega
  unfold ringTotal
  rw [h.ok s1 s2 n1 n2, t, hr, show (true && true) = true from rfl, if_pos rfl]
  simp only [ringOf]
  cases sums
  · exact win_total hu.le (fun _ _ => by omega) (fun p => by have := hu.one p; omega) n
  · exact win_total hu.le (fun e he => (h.amt e he).1) (fun p => by have := hu.two p; omega) n
set_option maxRecDepth 100000 in
/-- before anything came -/
theorem fed_nil (sp : Int) : Fed sp [] 0 := ⟨by omega, fun _ h => by simp at h, fun _ h => by simp at h, by simp⟩
set_option maxRecDepth 100000 in
theorem ringOf_nil (sp : Int) (n : Nat) : ringOf sp n [] 0 = (sp, 0, List.replicate n 0, List.replicate n 0) := by
  unfold ringOf
  have h : ∀ g : Ev → Int, win g sp n [] 0 = List.replicate n 0 := fun g => by
    unfold win
    apply List.ext_getElem?
    intro i
    rw [List.getElem?_map, List.getElem?_replicate]
    by_cases hi : i < n
    · rw [List.getElem?_range hi, if_pos hi]; rfl
    · rw [if_neg hi, List.getElem?_eq_none (by simp; omega)]; rfl
  rw [h, h]
end Go.Proofs.YtkbakcnhhlmpkaaDoor
/- What the reference draws for an account: a right one, its parts in memory of their own; no conditions. -/
set_option linter.unusedVariables false
namespace Go.Proofs.YtkbakcnhhlmpkaaDoor
open Go.ChangeShapes Go.WideShapes Go.ChangeAt Go.RowKit

def acctIds : List (List UInt8) := [[49, 56], [50, 54], [51, 52], [52, 50], [53, 57], [54, 55]]
set_option maxRecDepth 100000 in
theorem acctIds_ok {x : List UInt8} (h : x ∈ acctIds) : acctIdB ⟨x.toArray⟩ = true := by
  simp only [acctIds, List.mem_cons, List.not_mem_nil, or_false] at h
  rcases h with rfl | rfl | rfl | rfl | rfl | rfl <;> decide +kernel
set_option maxRecDepth 100000 in
theorem acctIds_small {x : List UInt8} (h : x ∈ acctIds) : x.length ≤ 2 := by
  simp only [acctIds, List.mem_cons, List.not_mem_nil, or_false] at h
  rcases h with rfl | rfl | rfl | rfl | rfl | rfl <;> decide
set_option maxRecDepth 100000 in
theorem acctIdB_small {s : ByteArray} (h : acctIdB s = true) : s.size ≤ 19 := by
  unfold acctIdB at h
  simp only [Bool.and_eq_true, decide_eq_true_eq] at h
  exact h.1
set_option maxRecDepth 100000 in
theorem acctId_any (b : Nat) (sv : Value) (i0 : Nat) (h0 : Int) (w : World) (hc : curAt w b sv i0 h0) (hi : i0 ≤ lenOf sv) (hr : readable w b sv) :
    Calls Tryd.prog 12 #[.pointer (some ⟨b, 0, none⟩)] w fun e w' => ∃ x : ByteArray, e = .returned (.string x) ∧ acctIdB x = true ∧ curOn b sv w w' := by
  have hblt := lt_of_cur hc
  have HC := Lib.hid hc
  have HR := Lib.hid hr
  clear hc hr
  go_enter Tryd.func12, Tryd.ntmps12
  go_wp2_with fail
  refine (pickStr_any b sv i0 h0 w.heap.size 6 acctIds _ (cur_alloc HC.out _) hi (HR.out.alloc _) (by omega) (texts_at w _ acctIds _ _ (by rfl) rfl) rfl (by omega) (by omega)).mono ?_
  rintro e w1 ⟨x, i1, h1, hx, rfl, hi1, hc1, ho1⟩
  have HO : Hid (curOn b sv w w1) := Lib.hid ⟨i1, h1, hi1, hc1, grown_trans (grown_alloc (grown_refl _ _) _) ho1.grown⟩
  have hxs := Lib.hid (acctIds_ok hx)
  clear hc1 ho1 hx
  go_wp2
  go_ret
  exact ⟨_, rfl, hxs.out, HO.out⟩
set_option maxRecDepth 100000 in
theorem satVal_zero {s : Int} (h : isMon s = true) : satVal s 0 = s := by
  obtain ⟨h0, h1⟩ := isMon_true h
  rw [sat_exact h0 (Int.le_refl _) (by omega)]; omega
set_option maxRecDepth 100000 in
theorem stored_from : ∀ (l : List HoldD) (n : Int), isMon n = true → isMon (l.foldl (fun n x => satVal n x.2.1) n) = true
  | [], n, h => h
  | x :: l, n, _ => stored_from l _ (satVal_mon _ _)
set_option maxRecDepth 100000 in
theorem storedL_mon (l : List HoldD) : isMon (storedL l) = true := stored_from l 0 (by decide)
set_option maxRecDepth 100000 in
theorem acctNew_right {id : ByteArray} {lim most sum n sp : Int} (hid : acctIdB id = true) (h1 : 0 ≤ lim ∧ lim ≤ 9007199254740992) (h2 : 0 ≤ most ∧ most ≤ 1000) (h3 : 0 ≤ sum ∧ sum ≤ 9007199254740992) (h4 : 1 ≤ n) (h5 : n ≤ 8) (h6 : 1 ≤ sp) (h7 : sp ≤ 1000) :
    acctNew id lim most sum n sp = (acctFresh id lim most sum (ringNew n sp).1, true) := by
  obtain ⟨r1, r2⟩ := ringNew_right h4 h5 h6 h7
  have hok : acctOk (acctFresh id lim most sum (ringNew n sp).1) = true := by
    unfold acctOk acctHead acctTail
    have e1 : inB lim 0 9007199254740992 = true := decide_eq_true h1
    have e2 : inB most 0 1000 = true := decide_eq_true h2
    have e3 : inB sum 0 9007199254740992 = true := decide_eq_true h3
    have e4 : satVal 0 0 = 0 := satVal_zero (by decide)
    have e5 : slotsOk [] = true := by decide
    have e6 : holdsOk [] = true := by decide
    have e7 : isMon 0 = true := by decide
    have e8 : storedL [] = 0 := rfl
    simp only [aId, aLim, aPos, aMost, aSum, aH, aR, aS, hid, e1, e2, e3, e5, e6, e7, r2, e8, e4, Bool.and_true, Bool.true_and]
    exact decide_eq_true h1.1
  unfold acctNew
  rw [r1, hok]
  rfl
set_option maxRecDepth 100000 in
theorem acct_right {id : ByteArray} {lim most sum y : Int} {H : List HoldD} {r : RingD} {sl : List SlotD} (hid : acctIdB id = true) (h1 : 0 ≤ lim ∧ lim ≤ 9007199254740992) (h2 : 0 ≤ most ∧ most ≤ 1000) (h3 : 0 ≤ sum ∧ sum ≤ 9007199254740992) (hy : 0 ≤ y) (hl : y + storedL H ≤ lim) (hH : holdsOk H = true) (hr : ringOk r = true) (hs : slotsOk sl = true) : acctOk (id, lim, y, most, sum, H, r, sl) = true := by
  have hst := (isMon_true (storedL_mon H)).1
  unfold acctOk acctHead acctTail
  have e1 : inB lim 0 9007199254740992 = true := decide_eq_true h1
  have e2 : inB most 0 1000 = true := decide_eq_true h2
  have e3 : inB sum 0 9007199254740992 = true := decide_eq_true h3
  have e4 : isMon y = true := by unfold isMon; rw [decide_eq_true hy, decide_eq_true (by omega)]; rfl
  have e5 : satVal y (storedL H) = y + storedL H := sat_exact hy hst (by omega)
  simp only [aId, aLim, aPos, aMost, aSum, aH, aR, aS, hid, e1, e2, e3, e4, e5, hH, hr, hs, Bool.and_true, Bool.true_and]
  exact decide_eq_true hl
set_option maxRecDepth 100000 in
theorem slots_nil {lo hi : Nat} {w : World} (A : Option Addr) (c : Nat) : SlotsR.mine lo hi w [.slice A 0 c] [] := ⟨[], ⟨A, c, rfl, Nat.zero_le _, .inl ⟨rfl, rfl⟩⟩, List.nodup_nil, by simp⟩
set_option maxRecDepth 100000 in
theorem holds_nil {lo hi : Nat} {w : World} (A : Option Addr) (c : Nat) : HoldsR.mine lo hi w [.slice A 0 c] [] := ⟨[], ⟨A, c, rfl, Nat.zero_le _, .inl ⟨rfl, rfl⟩⟩, List.nodup_nil, by simp⟩
/-- an account as it is drawn -/
def acctDrawn (b : Nat) (sv : Value) (w : World) (e : Ending) (w' : World) : Prop := ∃ (a : AcctD) (vh vc vs vl : Value), e = .returned (.agg #[.string (aId a), .int .i64 (aLim a), .int .i64 (aPos a), .int .i64 (aMost a), .int .i64 (aSum a), vh, .int .i64 (aR a).1, .int .i64 (aR a).2.1, vc, vs, vl]) ∧ acctOk a = true ∧ AcctI w.heap.size w'.heap.size w' vh vc vs vl a ∧ curOn b sv w w'
set_option maxRecDepth 100000 in
set_option maxHeartbeats 3200000 in
theorem acctDraw_any (b : Nat) (sv : Value) (id : ByteArray) (i0 : Nat) (h0 : Int) (w : World) (hid : acctIdB id = true) (hc : curAt w b sv i0 h0) (hi : i0 ≤ lenOf sv) (hr : readable w b sv) :
    Calls Tryd.prog 11 #[.pointer (some ⟨b, 0, none⟩), .string id] w (acctDrawn b sv w) := by
  have hblt := lt_of_cur hc
  have HR : Hid (∀ w' : World, w.grownBy w' (some b) → readable w' b sv) := Lib.hid fun w' hg => hr.grownAt hg (by omega)
  have HID := Lib.hid hid
  go_enter Tryd.func11, Tryd.ntmps11
  go_upto_region 1 with fail
  obtain ⟨w0, hW⟩ : ∃ w0, w0 = w.alloc (.cells #[.string ⟨#[]⟩, .int .i64 0, .int .i64 0, .int .i64 0, .int .i64 0, .slice none 0 0, .int .i64 0, .int .i64 0, .slice none 0 0, .slice none 0 0, .slice none 0 0] 29) := ⟨_, rfl⟩
  have B0 : Hid (bk w0 w.heap.size 29 [.string ⟨#[]⟩, .int .i64 0, .int .i64 0, .int .i64 0, .int .i64 0, .slice none 0 0, .int .i64 0, .int .i64 0, .slice none 0 0, .slice none 0 0, .slice none 0 0]) := Lib.hid (by rw [hW]; exact bk.new w _ _)
  have HO0 : Hid (curOn b sv w w0) := Lib.hid (by rw [hW]; exact (curOn.start hc hi).alloc _)
  have HC0 : Hid (curAt w0 b sv i0 h0) := Lib.hid (by rw [hW]; exact cur_alloc hc _)
  have z0 : w.heap.size + 1 = w0.heap.size := by rw [hW]; simp
  have hi0 := hi
  rw [← hW]
  clear hW hc hr hid hi
  go_wp2_with fail
  refine (pickInt_any b sv i0 h0 w0.heap.size 5 [100, 200, 60, 0, 9007199254740992] _ (cur_alloc HC0.out _) hi0 ((HR.out _ HO0.out.grown).alloc _) (by omega) (ints_at w0 _ [100, 200, 60, 0, 9007199254740992] _ _ (by rfl) rfl) rfl (by omega) (by omega)).mono ?_
  rintro e w1 ⟨lim, i1, h1, hm1, rfl, hi1, hc1, ho1⟩
  have blim : 0 ≤ lim ∧ lim ≤ 9007199254740992 := by
    simp only [List.mem_cons, List.not_mem_nil, or_false] at hm1
    omega
  have HO1 : Hid (curOn b sv w w1) := Lib.hid ((HO0.out.alloc _).only hi1 hc1 ho1)
  have HC1 := Lib.hid hc1
  have z1 : w0.heap.size + 1 = w1.heap.size := by have := ho1.size; simp at this; omega
  have B1 : Hid (bk w1 w.heap.size 29 [.string ⟨#[]⟩, .int .i64 0, .int .i64 0, .int .i64 0, .int .i64 0, .slice none 0 0, .int .i64 0, .int .i64 0, .slice none 0 0, .slice none 0 0, .slice none 0 0]) := Lib.hid ((ho1.block w.heap.size (by omega)).trans (B0.out.alloc _))
  clear hc1 ho1 hm1 HO0 HC0 B0
  go_wp2_with fail
  refine (pickInt_any b sv i1 h1 w1.heap.size 4 [2, 3, 5, 1000] _ (cur_alloc HC1.out _) hi1 ((HR.out _ HO1.out.grown).alloc _) (by omega) (ints_at w1 _ [2, 3, 5, 1000] _ _ (by rfl) rfl) rfl (by omega) (by omega)).mono ?_
  rintro e w2 ⟨most, i2, h2, hm2, rfl, hi2, hc2, ho2⟩
  have bmost : 0 ≤ most ∧ most ≤ 1000 := by
    simp only [List.mem_cons, List.not_mem_nil, or_false] at hm2
    omega
  have HO2 : Hid (curOn b sv w w2) := Lib.hid ((HO1.out.alloc _).only hi2 hc2 ho2)
  have HC2 := Lib.hid hc2
  have z2 : w1.heap.size + 1 = w2.heap.size := by have := ho2.size; simp at this; omega
  have B2 : Hid (bk w2 w.heap.size 29 [.string ⟨#[]⟩, .int .i64 0, .int .i64 0, .int .i64 0, .int .i64 0, .slice none 0 0, .int .i64 0, .int .i64 0, .slice none 0 0, .slice none 0 0, .slice none 0 0]) := Lib.hid ((ho2.block w.heap.size (by omega)).trans (B1.out.alloc _))
  clear hc2 ho2 hm2 HO1 HC1 B1
  go_wp2_with fail
  refine (pickInt_any b sv i2 h2 w2.heap.size 4 [60, 120, 1000, 9007199254740992] _ (cur_alloc HC2.out _) hi2 ((HR.out _ HO2.out.grown).alloc _) (by omega) (ints_at w2 _ [60, 120, 1000, 9007199254740992] _ _ (by rfl) rfl) rfl (by omega) (by omega)).mono ?_
  rintro e w3 ⟨sum, i3, h3, hm3, rfl, hi3, hc3, ho3⟩
  have bsum : 0 ≤ sum ∧ sum ≤ 9007199254740992 := by
    simp only [List.mem_cons, List.not_mem_nil, or_false] at hm3
    omega
  have HO3 : Hid (curOn b sv w w3) := Lib.hid ((HO2.out.alloc _).only hi3 hc3 ho3)
  have HC3 := Lib.hid hc3
  have z3 : w2.heap.size + 1 = w3.heap.size := by have := ho3.size; simp at this; omega
  have B3 : Hid (bk w3 w.heap.size 29 [.string ⟨#[]⟩, .int .i64 0, .int .i64 0, .int .i64 0, .int .i64 0, .slice none 0 0, .int .i64 0, .int .i64 0, .slice none 0 0, .slice none 0 0, .slice none 0 0]) := Lib.hid ((ho3.block w.heap.size (by omega)).trans (B2.out.alloc _))
  clear hc3 ho3 hm3 HO2 HC2 B2
  go_wp2_with fail
  refine (below_any b sv i3 h3 4 w3 HC3.out hi3 (HR.out _ HO3.out.grown) (by decide) (by decide)).mono ?_
  rintro e w4 ⟨n, i4, h4, rfl, n0, n1, hi4, hc4, ho4⟩
  have HO4 : Hid (curOn b sv w w4) := Lib.hid (HO3.out.only hi4 hc4 ho4)
  have HC4 := Lib.hid hc4
  have z4 : w3.heap.size = w4.heap.size := ho4.size.symm
  have B4 : Hid (bk w4 w.heap.size 29 [.string ⟨#[]⟩, .int .i64 0, .int .i64 0, .int .i64 0, .int .i64 0, .slice none 0 0, .int .i64 0, .int .i64 0, .slice none 0 0, .slice none 0 0, .slice none 0 0]) := Lib.hid ((ho4.block w.heap.size (by omega)).trans B3.out)
  clear hc4 ho4 HO3 HC3 B3
  go_wp2_with fail
  refine (below_any b sv i4 h4 5 w4 HC4.out hi4 (HR.out _ HO4.out.grown) (by decide) (by decide)).mono ?_
  rintro e w5 ⟨sp, i5, h5, rfl, sp0, sp1, hi5, hc5, ho5⟩
  have HO5 : Hid (curOn b sv w w5) := Lib.hid (HO4.out.only hi5 hc5 ho5)
  have HC5 := Lib.hid hc5
  have z5 : w4.heap.size = w5.heap.size := ho5.size.symm
  have B5 : Hid (bk w5 w.heap.size 29 [.string ⟨#[]⟩, .int .i64 0, .int .i64 0, .int .i64 0, .int .i64 0, .slice none 0 0, .int .i64 0, .int .i64 0, .slice none 0 0, .slice none 0 0, .slice none 0 0]) := Lib.hid ((ho5.block w.heap.size (by omega)).trans B4.out)
  clear hc5 ho5 HO4 HC4 B4
  have hnew := acctNew_right (lim := lim) (most := most) (sum := sum) (n := 1 + n) (sp := 1 + sp) HID.out blim bmost bsum (by omega) (by omega) (by omega) (by omega)
  go_wp2_with fail
  refine (specAcctNew_any id lim most sum (1 + n) (1 + sp) w5 (by have := acctIdB_small HID.out; unfold maxLen; omega)).mono ?_
  rw [hnew]
  rintro e w6 ⟨vh, vc, vs, vl, rfl, hm6, hb6⟩
  obtain ⟨vh', vc', vs', vl', hcs, r1, r2, r3, r4⟩ := acct_rd hm6.rd
  simp only [aCells, List.cons.injEq, and_true, true_and] at hcs
  obtain ⟨rfl, rfl, rfl, rfl⟩ := hcs
  obtain ⟨AH, cH, rfl, -⟩ := Rep.slice_form r1
  obtain ⟨AL, cL, rfl, -⟩ := Rep.slice_form r4
  obtain ⟨AC, cC, rfl, -⟩ := r2.form
  obtain ⟨AS, cS, rfl, -⟩ := r3.form
  simp only [aId, aLim, aPos, aMost, aSum, aH, aR, aS, List.length_nil] at r2 r3 ⊢
  generalize (ringNew (1 + n) (1 + sp)).1 = rg at *
  have HO6 := Lib.hid (HO5.out.below hblt hb6 HO5.out.size)
  have B6 : Hid (bk w6 w.heap.size 29 [.string ⟨#[]⟩, .int .i64 0, .int .i64 0, .int .i64 0, .int .i64 0, .slice none 0 0, .int .i64 0, .int .i64 0, .slice none 0 0, .slice none 0 0, .slice none 0 0]) := Lib.hid (B5.out.below hb6 (by omega))
  have z6 : w5.heap.size ≤ w6.heap.size := hb6.size
  clear hm6 hb6 r1 r2 r3 r4 hnew HO5 HC5 B5
  go_upto_region 2 with fail
  obtain ⟨p, hp⟩ : ∃ p, p = w6.heap.size := ⟨_, rfl⟩
  obtain ⟨w7, hW⟩ : ∃ w7, w7 = w6.alloc (.cells #[.string id, .int .i64 lim, .int .i64 0, .int .i64 most, .int .i64 sum, .slice AH 0 cH, .int .i64 rg.1, .int .i64 rg.2.1, .slice AC rg.2.2.1.length cC, .slice AS rg.2.2.2.length cS, .slice AL 0 cL] 29) := ⟨_, rfl⟩
  have K7 : Hid (bk w7 p 29 [.string id, .int .i64 lim, .int .i64 0, .int .i64 most, .int .i64 sum, .slice AH 0 cH, .int .i64 rg.1, .int .i64 rg.2.1, .slice AC rg.2.2.1.length cC, .slice AS rg.2.2.2.length cS, .slice AL 0 cL]) := Lib.hid (by rw [hW, hp]; exact bk.new w6 _ _)
  have HO7 : Hid (curOn b sv w w7) := Lib.hid (by rw [hW]; exact HO6.out.alloc _)
  have B7 : Hid (bk w7 w.heap.size 29 [.string ⟨#[]⟩, .int .i64 0, .int .i64 0, .int .i64 0, .int .i64 0, .slice none 0 0, .int .i64 0, .int .i64 0, .slice none 0 0, .slice none 0 0, .slice none 0 0]) := Lib.hid (by rw [hW]; exact B6.out.alloc _)
  have z7 : p + 1 = w7.heap.size := by rw [hW, hp]; simp
  have hpw : w.heap.size < p := by omega
  rw [← hW, ← hp]
  have hz7 : w.heap.size + 1 ≤ w7.heap.size := by omega
  clear hW hp HO6 B6 z0 z1 z2 z3 z4 z5 z6
  obtain ⟨i7, h7, hi7, hc7, -⟩ := HO7.out
  have HC7 := Lib.hid hc7
  clear hc7
  go_wp2_with fail
  refine (ringDraw_any b sv i7 h7 w7 HC7.out hi7 (HR.out _ HO7.out.grown)).mono ?_
  rintro e w8 ⟨r, vc8, vs8, rfl, hrok, hm8, ho8⟩
  obtain ⟨A8, c8, rfl, -⟩ := (ring2 hm8.rd).1.form
  obtain ⟨D8, d8, rfl, -⟩ := (ring2 hm8.rd).2.form
  have HROK := Lib.hid hrok
  have HT8 := turned_of_grown ho8.grown
  have K8 := Lib.hid (K7.out.under HT8 (by omega))
  have B8 := Lib.hid (B7.out.under HT8 (by omega))
  have HO8 := Lib.hid (HO7.out.then ho8)
  have HM8 := Lib.hid hm8
  have z8 := ho8.size
  clear ho8 hm8 hrok HT8 HO7 HC7 K7 B7
  obtain ⟨⟨p0, p1, p2, p3, p4, p5, p6, p7, p8, p9, p10⟩, f0, f1, f2, f3, f4, f5, f6, f7, f8, f9, f10⟩ := K8.out.eleven
  go_wp2_with fail
  obtain ⟨w9, hW⟩ : ∃ w9, w9 = (((w8.setCell ⟨p, 6, none⟩ (.int .i64 r.1)).setCell ⟨p, 7, none⟩ (.int .i64 r.2.1)).setCell ⟨p, 8, none⟩ (.slice A8 r.2.2.1.length c8)).setCell ⟨p, 9, none⟩ (.slice D8 r.2.2.2.length d8) := ⟨_, rfl⟩
  have ht9 : Turned p (p + 1) w8 w9 := by rw [hW]; exact ((((Turned.refl p (p + 1) w8).set (b := p) 6 _ (by omega) (by omega)).set (b := p) 7 _ (by omega) (by omega)).set (b := p) 8 _ (by omega) (by omega)).set (b := p) 9 _ (by omega) (by omega)
  have K9 : Hid (bk w9 p 29 [.string id, .int .i64 lim, .int .i64 0, .int .i64 most, .int .i64 sum, .slice AH 0 cH, .int .i64 r.1, .int .i64 r.2.1, .slice A8 r.2.2.1.length c8, .slice D8 r.2.2.2.length d8, .slice AL 0 cL]) := Lib.hid (by rw [hW]; exact (((K8.out.set 6 _).set 7 _).set 8 _).set 9 _)
  rw [← hW]
  have B9 := Lib.hid (B8.out.under ht9 (by omega))
  have HO9 := Lib.hid (HO8.out.rest hblt ht9 (by omega))
  have HM9 := Lib.hid (HM8.out.turned ht9 (.inr (by omega)) (Nat.le_refl _))
  have z9 := ht9.size
  clear hW ht9 p0 p1 p2 p3 p4 p5 p6 p7 p8 p9 p10 f0 f1 f2 f3 f4 f5 f6 f7 f8 f9 f10 K8 B8 HO8 HM8
  obtain ⟨i9, h9, hi9, hc9, -⟩ := HO9.out
  have HC9 := Lib.hid hc9
  clear hc9
  refine (holdsDraw_any b sv i9 h9 w9 HC9.out hi9 (HR.out _ HO9.out.grown)).mono ?_
  rintro e w10 ⟨hs, A10, c10, rfl, hhok, hm10, ho10⟩
  have HHOK := Lib.hid hhok
  have HT10 := turned_of_grown ho10.grown
  have K10 := Lib.hid (K9.out.under HT10 (by omega))
  have B10 := Lib.hid (B9.out.under HT10 (by omega))
  have HO10 := Lib.hid (HO9.out.then ho10)
  have HM10 := Lib.hid (HM9.out.turned HT10 (.inr (by omega)) (by omega))
  have HH10 := Lib.hid hm10
  have z10 := ho10.size
  obtain ⟨hs4, hs6⟩ := holdsOk_small hhok
  have HST : Hid (∀ W, Ext w10 W → Calls Tryd.prog 25 #[.slice A10 hs.length c10] W fun e w' => e = .returned (.int .i64 (storedL hs)) ∧ Below W.heap.size W w') := Lib.hid fun W hW => specStored_any w10.heap.size _ hs W (by omega) (Rep.below (R := HoldsR) HH10.out.rd hW.below (Nat.le_refl _)) hW.below.size
  have hstm := storedL_mon hs
  have HSA : Hid (∀ W, Ext w10 W → Calls Tryd.prog 24 #[.int .i64 (storedL hs), .int .i64 0] W fun e w' => e = .returned (.int .i64 (storedL hs)) ∧ Below W.heap.size W w') := Lib.hid fun W hW => (specSat_any (storedL hs) 0 W).mono fun e w' h => ⟨by rw [h.1, satVal_zero hstm], h.2 ▸ Below.refl _ _⟩
  clear ho10 hm10 hhok HT10 HO9 HC9 K9 B9 HM9 hs6
  have hst0 := (isMon_true hstm).1
  clear hstm
  go_upto_region 4 with fail
  have P1 := Lib.hid (K10.out.cell 1)
  simp only [List.getElem?_cons_zero, List.getElem?_cons_succ] at P1
  have hpz : p < w10.heap.size := by omega
  obtain ⟨st, hst⟩ : ∃ st, st = storedL hs := ⟨_, rfl⟩
  rw [← hst] at HST HSA hst0
  have HSTV := Lib.hid hst
  clear hst
  go_cut [38] (fun cv wx => cv = .bool (decide (st ≤ lim)) ∧ Below w10.heap.size w10 wx)
  case first =>
    have HX : Hid (Ext w10 w10.drew) := Lib.hid (Ext.refl w10).drew
    refine quiet_region (C := Ext w10) (by kernel_rfl) (by kernel_rfl) HX.out ?_
    repeat (first
      | go_big_quiet_skip
      | (go_big_quiet_want; go_big_quiet_op; go_big_quiet_on)
      | (go_big_quiet_want; go_big_quiet_op; apply Exists.intro; refine ⟨fun _ _ => rfl, ?_⟩; go_big_quiet_on)
      | (go_big_quiet_want
         apply Exists.intro
         refine ⟨fun W hW => ?_, ?_⟩
         (have q0 := hW.cell P1.out (by omega)
          unfold Oper.quietAt
          go_simp
          rfl)
         simp only [Act.put, List.setIfInBounds_toArray, List.set_cons_zero, List.set_cons_succ]
         go_big_quiet_on)
      | (go_big_quiet_want
         apply Exists.intro
         refine ⟨fun W hW => ?_, ?_⟩
         (unfold Oper.quietAt
          go_simp
          go_at_call 25
          refine (HST.out W hW).mono ?_
          rintro e w4 ⟨rfl, hb4⟩
          exact ⟨rfl, hW.step hb4⟩)
         simp only [Act.put, List.setIfInBounds_toArray, List.set_cons_zero, List.set_cons_succ]
         go_big_quiet_on)
      | (go_big_quiet_want
         apply Exists.intro
         refine ⟨fun W hW => ?_, ?_⟩
         (unfold Oper.quietAt
          go_simp
          go_at_call 24
          refine (HSA.out W hW).mono ?_
          rintro e w4 ⟨rfl, hb4⟩
          exact ⟨rfl, hW.step hb4⟩)
         simp only [Act.put, List.setIfInBounds_toArray, List.set_cons_zero, List.set_cons_succ]
         go_big_quiet_on))
    refine wpQuiet_nil ?_
    intro W4 hW4
    go_wp2
    go_meet
    exact ⟨rfl, hW4⟩
  case rest =>
    obtain ⟨rfl, hbc⟩ := hcut
    have Kc := Lib.hid (K10.out.below hbc (by omega))
    have Bc := Lib.hid (B10.out.below hbc (by omega))
    have HOc := Lib.hid (HO10.out.below hblt hbc (by omega))
    have HMc := Lib.hid (HM10.out.below hbc (by omega))
    have HHc := Lib.hid (HH10.out.below hbc (by omega))
    have zc := hbc.size
    clear hbc HST HSA P1 K10 B10 HO10 HM10 HH10
    obtain ⟨w11, hw11⟩ : ∃ w11, w11 = wc := ⟨_, rfl⟩
    subst hw11
    have z11 : w.heap.size + 1 ≤ w11.heap.size := by omega
    go_upto_if 38 with fail
    obtain ⟨⟨p0, p1, p2, p3, p4, p5, p6, p7, p8, p9, p10⟩, f0, f1, f2, f3, f4, f5, f6, f7, f8, f9, f10⟩ := Kc.out.eleven
    go_cut [] (fun wx => ∃ (H : List HoldD) (AX : Option Addr) (cX : Nat), Hid (holdsOk H = true) ∧ Hid (storedL H ≤ lim) ∧ Hid (bk wx p 29 [.string id, .int .i64 lim, .int .i64 0, .int .i64 most, .int .i64 sum, .slice AX H.length cX, .int .i64 r.1, .int .i64 r.2.1, .slice A8 r.2.2.1.length c8, .slice D8 r.2.2.2.length d8, .slice AL 0 cL]) ∧ Hid (HoldsR.mine w9.heap.size w10.heap.size wx [.slice AX H.length cX] H) ∧ Turned p (p + 1) w11 wx)
    case first =>
      cases hd : decide (st ≤ lim)
      · clear hd
        go_wp2_with fail
        go_meet
        exact ⟨[], AH, cH, Lib.hid (by decide), Lib.hid blim.1, Kc, Lib.hid (holds_nil AH cH), Turned.refl _ _ _⟩
      · have hle := Lib.hid (of_decide_eq_true hd)
        clear hd
        go_wp2_with fail
        go_meet
        have ht := (Turned.refl p (p + 1) w11).set (b := p) 5 (.slice A10 hs.length c10) (by omega) (by omega)
        exact ⟨hs, A10, c10, HHOK, Lib.hid (by rw [← HSTV.out]; exact hle.out), Lib.hid (Kc.out.set 5 _), Lib.hid (HHc.out.turned ht (.inr (by omega)) (by omega)), ht⟩
    case rest =>
      obtain ⟨H, AX, cX, HHK, HHL, KX, HHX, htx⟩ := hcut
      obtain ⟨w12, hw12⟩ : ∃ w12, w12 = wc := ⟨_, rfl⟩
      subst hw12
      have BX := Lib.hid (Bc.out.under htx (by omega))
      have HOX := Lib.hid (HOc.out.rest hblt htx (by omega))
      have HMX := Lib.hid (HMc.out.turned htx (.inr (by omega)) (by omega))
      have z12 := htx.size
      clear htx Kc Bc HOc HMc HHc p0 p1 p2 p3 p4 p5 p6 p7 p8 p9 p10 f0 f1 f2 f3 f4 f5 f6 f7 f8 f9 f10 HHOK HSTV hs4 hst0
      obtain ⟨hH4, hH6⟩ := holdsOk_small HHK.out
      have HST : Hid (∀ W u, W.heap.size ≥ w12.heap.size → Turned b (b + 1) w12 W → u = .slice AX H.length cX → Calls Tryd.prog 25 #[u] W fun e w' => e = .returned (.int .i64 (storedL H)) ∧ Below W.heap.size W w') := Lib.hid fun W u hz hW hu => by
        subst hu
        exact specStored_any w10.heap.size _ H W (by omega) (HHX.out.turned hW (.inr (by omega)) (by omega)).rd (by omega)
      have hstm := storedL_mon H
      have hst0 := (isMon_true hstm).1
      clear hstm hH6
      obtain ⟨s2, hs2⟩ : ∃ s2, s2 = storedL H := ⟨_, rfl⟩
      rw [← hs2] at HST hst0 HHL
      have HS2 := Lib.hid hs2
      clear hs2
      have HSE : Hid (∀ W, Ext w12 W → Calls Tryd.prog 25 #[.slice AX H.length cX] W fun e w' => e = .returned (.int .i64 s2) ∧ Below W.heap.size W w') := Lib.hid fun W hW => HST.out W _ hW.below.size (Turned.of_below hW.below) rfl
      have HD12 : Hid (Turned b (b + 1) w12 w12.drew) := Lib.hid (turned_of_grown (grown_below (Below.drew (Below.refl w12.heap.size w12))))
      have hlim0 := HHL.out
      obtain ⟨i12, h12, hi12, hc12, hg12⟩ := HOX.out
      have HC12 := Lib.hid hc12
      clear hc12 hg12
      go_upto_region 6 with fail
      go_cut [50] (fun cv wx => ∃ x : Bool, cv = .bool x ∧ (x = true → s2 < lim) ∧ Hid (curOn b sv w wx) ∧ Turned b (b + 1) w12 wx)
      case first =>
        by_cases hlt : s2 < lim
        · obtain ⟨⟨p0, p1, p2, p3, p4, p5, p6, p7, p8, p9, p10⟩, -⟩ := KX.out.eleven
          clear p0 p2 p3 p4 p6 p7 p8 p9 p10
          go_region_law (first
            | (go_simp; go_at_call 25; refine (HST.out w12.drew _ (Nat.le_refl _) HD12.out rfl).mono ?_; rintro e w13 ⟨rfl, hb13⟩; have HB13 : Hid (Below w12.heap.size w12.drew w13) := Lib.hid hb13; have HT13 : Hid (Turned b (b + 1) w12 w13) := Lib.hid (HD12.out.trans (Turned.of_below hb13)); have HC13 : Hid (curAt w13 b sv i12 h12) := Lib.hid ((hb13.block b (show b < w12.heap.size by omega)).trans HC12.out); have HO13 : Hid (curOn b sv w w13) := Lib.hid (HOX.out.below hblt (Below.trans (Below.drew (Below.refl w12.heap.size w12)) hb13) (show w.heap.size ≤ w12.heap.size by omega)); have z13 : w12.heap.size ≤ w13.heap.size := hb13.size; have q1 := (KX.out.under HT13.out (show p < b ∨ b + 1 ≤ p by omega)).cell 1; simp only [List.getElem?_cons_zero, List.getElem?_cons_succ] at q1; clear hb13)
            | (go_simp; go_at_call 26; refine (once_any b sv i12 h12 2 w13 HC13.out hi12 (HR.out _ HO13.out.grown) (by decide) (by decide)).mono ?_; rintro e w14 ⟨x, i14, h14, rfl, hi14, hc14, ho14⟩; have HT14 : Hid (Turned b (b + 1) w12 w14) := Lib.hid (HT13.out.trans (turned_of_grown ho14.grown)); have HO14 : Hid (curOn b sv w w14) := Lib.hid (HO13.out.only hi14 hc14 ho14); clear hc14 ho14))
          all_goals
            go_wp2
            go_meet
            exact ⟨x, rfl, fun _ => hlt, HO14, HT14.out⟩
        · have P1 := Lib.hid (KX.out.cell 1)
          have P5 := Lib.hid (KX.out.cell 5)
          simp only [List.getElem?_cons_zero, List.getElem?_cons_succ] at P1 P5
          have hp12 : p < w12.heap.size := by omega
          have HX : Hid (Ext w12 w12.drew) := Lib.hid (Ext.refl w12).drew
          refine quiet_region (C := Ext w12) (by kernel_rfl) (by kernel_rfl) HX.out ?_
          repeat (first
            | go_big_quiet_skip
            | (go_big_quiet_want; go_big_quiet_op; go_big_quiet_on)
            | (go_big_quiet_want; go_big_quiet_op; apply Exists.intro; refine ⟨fun _ _ => rfl, ?_⟩; go_big_quiet_on)
            | (go_big_quiet_want
               apply Exists.intro
               refine ⟨fun W hW => ?_, ?_⟩
               (have q1 := hW.cell P1.out hp12
                have q5 := hW.cell P5.out hp12
                unfold Oper.quietAt
                go_simp
                rfl)
               simp only [Act.put, List.setIfInBounds_toArray, List.set_cons_zero, List.set_cons_succ]
               go_big_quiet_on)
            | (go_big_quiet_want
               apply Exists.intro
               refine ⟨fun W hW => ?_, ?_⟩
               (unfold Oper.quietAt
                go_simp
                go_at_call 25
                refine (HSE.out W hW).mono ?_
                rintro e w4 ⟨rfl, hb4⟩
                exact ⟨rfl, hW.step hb4⟩)
               simp only [Act.put, List.setIfInBounds_toArray, List.set_cons_zero, List.set_cons_succ]
               go_big_quiet_on))
          refine wpQuiet_nil ?_
          intro W4 hW4
          go_wp2
          go_meet
          exact ⟨false, by first | rfl | simp, fun h => absurd h (by simp), Lib.hid (HOX.out.below hblt hW4.below (by omega)), Turned.of_below hW4.below⟩
      case rest =>
        obtain ⟨x, rfl, hx, HO13, ht13⟩ := hcut
        obtain ⟨w13, hw13⟩ : ∃ w13, w13 = wc := ⟨_, rfl⟩
        subst hw13
        have z13 := ht13.size
        have K13 := Lib.hid (KX.out.under ht13 (by omega))
        have HD13 : Hid (Turned b (b + 1) w12 w13.drew) := Lib.hid (ht13.trans (turned_of_grown (grown_below (Below.drew (Below.refl w13.heap.size w13)))))
        have HT13 := Lib.hid ht13
        have HX := Lib.hid hx
        clear ht13 hx HSE HD12 HC12 HOX KX
        obtain ⟨i13, h13, hi13, hc13, hg13⟩ := HO13.out
        have HC13 := Lib.hid hc13
        clear hc13 hg13
        go_upto_if 50 with fail
        go_cut [] (fun wx => ∃ y : Int, 0 ≤ y ∧ y + s2 ≤ lim ∧ Hid (bk wx p 29 [.string id, .int .i64 lim, .int .i64 y, .int .i64 most, .int .i64 sum, .slice AX H.length cX, .int .i64 r.1, .int .i64 r.2.1, .slice A8 r.2.2.1.length c8, .slice D8 r.2.2.2.length d8, .slice AL 0 cL]) ∧ Hid (curOn b sv w wx) ∧ Hid (∃ Wm, Turned b (b + 1) w13 Wm ∧ Turned p (p + 1) Wm wx) ∧ w13.heap.size ≤ wx.heap.size)
        case first =>
          cases x
          · go_wp2_with fail
            go_meet
            exact ⟨0, Int.le_refl _, by omega, K13, HO13, Lib.hid ⟨w13, Turned.refl _ _ _, Turned.refl _ _ _⟩, Nat.le_refl _⟩
          · have hlt := HX.out rfl
            have hw1 : IntKind.i64.wrap (lim - s2) = lim - s2 := IntWalk.i64_in _ (by omega)
            have hw2 : IntKind.i64.wrap (lim - s2 + 1) = lim - s2 + 1 := IntWalk.i64_in _ (by omega)
            obtain ⟨⟨p0, p1, p2, p3, p4, p5, p6, p7, p8, p9, p10⟩, -⟩ := K13.out.eleven
            clear p0 p2 p3 p4 p6 p7 p8 p9 p10
            go_upto_region 7 with fail
            go_region_law (first
              | (go_simp; go_at_call 25; refine (HST.out w13.drew _ (show w12.heap.size ≤ w13.heap.size by omega) HD13.out rfl).mono ?_; rintro e w14 ⟨rfl, hb14⟩; have HT14 : Hid (Turned b (b + 1) w13 w14) := Lib.hid ((turned_of_grown (grown_below (Below.drew (Below.refl w13.heap.size w13)))).trans (Turned.of_below hb14)); have HC14 : Hid (curAt w14 b sv i13 h13) := Lib.hid ((hb14.block b (show b < w13.heap.size by omega)).trans HC13.out); have HO14 : Hid (curOn b sv w w14) := Lib.hid (HO13.out.below hblt (Below.trans (Below.drew (Below.refl w13.heap.size w13)) hb14) (show w.heap.size ≤ w13.heap.size by omega)); have z14 : w13.heap.size ≤ w14.heap.size := hb14.size; have q1 := (K13.out.under HT14.out (show p < b ∨ b + 1 ≤ p by omega)).cell 1; simp only [List.getElem?_cons_zero, List.getElem?_cons_succ] at q1; clear hb14)
              | (go_simp; go_at_call 21; refine (below_any b sv i13 h13 (lim - s2 + 1) w14 HC14.out hi13 (HR.out _ HO14.out.grown) (by omega) (by omega)).mono ?_; rintro e w15 ⟨y, i15, h15, rfl, hy0, hy1, hi15, hc15, ho15⟩; have HT15 : Hid (Turned b (b + 1) w13 w15) := Lib.hid (HT14.out.trans (turned_of_grown ho15.grown)); have HO15 : Hid (curOn b sv w w15) := Lib.hid (HO14.out.only hi15 hc15 ho15); have z15 : w14.heap.size ≤ w15.heap.size := Nat.le_of_eq ho15.size.symm; have k15 := K13.out.under HT15.out (show p < b ∨ b + 1 ≤ p by omega); have K15 := Lib.hid k15; have r2 := k15.cell 2; have f2 := k15.frozen 2; simp only [List.getElem?_cons_zero, List.getElem?_cons_succ] at r2; clear hc15 ho15 k15))
            all_goals
              go_wp2
              go_meet
              have ht := (Turned.refl p (p + 1) w15).set (b := p) 2 (.int .i64 y) (by omega) (by omega)
              have hsz := ht.size
              exact ⟨y, hy0, by omega, Lib.hid (K15.out.set 2 _), Lib.hid (HO15.out.rest hblt ht (by omega)), Lib.hid ⟨w15, HT15.out, ht⟩, by omega⟩
        case rest =>
          obtain ⟨y, hy0, hyl, K16, HO16, HW16, z16⟩ := hcut
          obtain ⟨w16, hw16⟩ : ∃ w16, w16 = wc := ⟨_, rfl⟩
          subst hw16
          have HH16 : Hid (HoldsR.mine w9.heap.size w10.heap.size w16 [.slice AX H.length cX] H) := Lib.hid (by
            obtain ⟨Wm, t1, t2⟩ := HW16.out
            have := t1.size
            exact ((HHX.out.turned HT13.out (.inr (by omega)) (by omega)).turned t1 (.inr (by omega)) (by omega)).turned t2 (.inr (by omega)) (by omega))
          have HM16 := Lib.hid (by
            obtain ⟨Wm, t1, t2⟩ := HW16.out
            have := t1.size
            exact ((HMX.out.turned HT13.out (.inr (by omega)) (by omega)).turned t1 (.inr (by omega)) (by omega)).turned t2 (.inr (by omega)) (by omega))
          have B16 := Lib.hid (by
            obtain ⟨Wm, t1, t2⟩ := HW16.out
            exact ((BX.out.under HT13.out (by omega)).under t1 (by omega)).under t2 (by omega))
          clear HW16 HHX HMX BX HT13 HD13 HC13 HO13 K13 HX HST HHL
          obtain ⟨i16, h16, hi16, hc16, -⟩ := HO16.out
          have HC16 := Lib.hid hc16
          clear hc16
          go_upto_region 8 with fail
          go_wp2_with fail
          refine (once_any b sv i16 h16 3 w16 HC16.out hi16 (HR.out _ HO16.out.grown) (by decide) (by decide)).mono ?_
          rintro e w17 ⟨x, i17, h17, rfl, hi17, hc17, ho17⟩
          have HO17 := Lib.hid (HO16.out.only hi17 hc17 ho17)
          have HC17 := Lib.hid hc17
          have ht17 := turned_of_grown ho17.grown
          have K17 := Lib.hid (K16.out.under ht17 (by omega))
          have B17 := Lib.hid (B16.out.under ht17 (by omega))
          have HM17 := Lib.hid (HM16.out.turned ht17 (.inr (by omega)) (by omega))
          have HH17 := Lib.hid (HH16.out.turned ht17 (.inr (by omega)) (by omega))
          have z17 : w16.heap.size = w17.heap.size := ho17.size.symm
          clear hc17 ho17 ht17 HO16 HC16 K16 B16 HM16 HH16
          cases x
          · clear HC17
            have HZ : Hid (w.heap.size + 1 ≤ w7.heap.size ∧ w7.heap.size ≤ w8.heap.size ∧ w8.heap.size ≤ w9.heap.size ∧ w9.heap.size ≤ w10.heap.size ∧ w10.heap.size ≤ w17.heap.size) := Lib.hid (by omega)
            have HNUM : Hid ((0 ≤ lim ∧ lim ≤ 9007199254740992) ∧ (0 ≤ most ∧ most ≤ 1000) ∧ (0 ≤ sum ∧ sum ≤ 9007199254740992) ∧ 0 ≤ y ∧ y + s2 ≤ lim) := Lib.hid ⟨blim, bmost, bsum, hy0, hyl⟩
            have HBL := Lib.hid hblt
            clear z7 hpw hz7 z8 z9 z10 hpz zc z11 z12 z13 z16 z17 blim bmost bsum hy0 hyl hlim0 hst0 hH4 n0 n1 sp0 sp1 hi0 hi1 hi2 hi3 hi4 hi5 hi7 hi9 hi12 hi13 hi16 hi17 hblt
            obtain ⟨⟨p0, p1, p2, p3, p4, p5, p6, p7, p8, p9, p10⟩, -⟩ := K17.out.eleven
            obtain ⟨⟨q0, q1, q2, q3, q4, q5, q6, q7, q8, q9, q10⟩, f0, f1, f2, f3, f4, f5, f6, f7, f8, f9, f10⟩ := B17.out.eleven
            go_upto_region 10 with fail
            go_cut [] (fun wx => Hid (bk wx w.heap.size 29 [.string id, .int .i64 lim, .int .i64 y, .int .i64 most, .int .i64 sum, .slice AX H.length cX, .int .i64 r.1, .int .i64 r.2.1, .slice A8 r.2.2.1.length c8, .slice D8 r.2.2.2.length d8, .slice AL 0 cL]) ∧ Hid (Turned w.heap.size (w.heap.size + 1) w17 wx))
            case first =>
              iterate 4 (first | go_values | go_skip | go_guarded | go_step | go_upon)
              clear p0 p1 p2 p3 p4 p5 p6 p7 p8 p9 p10
              go_step
              go_simp
              obtain ⟨WF, hWF⟩ : ∃ WF, WF = (((((((((((w17.setCell ⟨w.heap.size, 0, none⟩ (.string id)).setCell ⟨w.heap.size, 1, none⟩ (.int .i64 lim)).setCell ⟨w.heap.size, 2, none⟩ (.int .i64 y)).setCell ⟨w.heap.size, 3, none⟩ (.int .i64 most)).setCell ⟨w.heap.size, 4, none⟩ (.int .i64 sum)).setCell ⟨w.heap.size, 5, none⟩ (.slice AX H.length cX)).setCell ⟨w.heap.size, 6, none⟩ (.int .i64 r.1)).setCell ⟨w.heap.size, 7, none⟩ (.int .i64 r.2.1)).setCell ⟨w.heap.size, 8, none⟩ (.slice A8 r.2.2.1.length c8)).setCell ⟨w.heap.size, 9, none⟩ (.slice D8 r.2.2.2.length d8)).setCell ⟨w.heap.size, 10, none⟩ (.slice AL 0 cL)) := ⟨_, rfl⟩
              have HTF : Hid (Turned w.heap.size (w.heap.size + 1) w17 WF) := Lib.hid (by rw [hWF]; exact (((((((((((Turned.refl w.heap.size (w.heap.size + 1) w17).set (b := w.heap.size) 0 (.string id) (Nat.le_refl _) (Nat.lt_succ_self _)).set (b := w.heap.size) 1 (.int .i64 lim) (Nat.le_refl _) (Nat.lt_succ_self _)).set (b := w.heap.size) 2 (.int .i64 y) (Nat.le_refl _) (Nat.lt_succ_self _)).set (b := w.heap.size) 3 (.int .i64 most) (Nat.le_refl _) (Nat.lt_succ_self _)).set (b := w.heap.size) 4 (.int .i64 sum) (Nat.le_refl _) (Nat.lt_succ_self _)).set (b := w.heap.size) 5 (.slice AX H.length cX) (Nat.le_refl _) (Nat.lt_succ_self _)).set (b := w.heap.size) 6 (.int .i64 r.1) (Nat.le_refl _) (Nat.lt_succ_self _)).set (b := w.heap.size) 7 (.int .i64 r.2.1) (Nat.le_refl _) (Nat.lt_succ_self _)).set (b := w.heap.size) 8 (.slice A8 r.2.2.1.length c8) (Nat.le_refl _) (Nat.lt_succ_self _)).set (b := w.heap.size) 9 (.slice D8 r.2.2.2.length d8) (Nat.le_refl _) (Nat.lt_succ_self _)).set (b := w.heap.size) 10 (.slice AL 0 cL) (Nat.le_refl _) (Nat.lt_succ_self _))
              have HBF : Hid (bk WF w.heap.size 29 [.string id, .int .i64 lim, .int .i64 y, .int .i64 most, .int .i64 sum, .slice AX H.length cX, .int .i64 r.1, .int .i64 r.2.1, .slice A8 r.2.2.1.length c8, .slice D8 r.2.2.2.length d8, .slice AL 0 cL]) := Lib.hid (by rw [hWF]; exact (((((((((((B17.out.set 0 _).set 1 _).set 2 _).set 3 _).set 4 _).set 5 _).set 6 _).set 7 _).set 8 _).set 9 _).set 10 _))
              rw [← hWF]
              clear hWF q0 q1 q2 q3 q4 q5 q6 q7 q8 q9 q10 f0 f1 f2 f3 f4 f5 f6 f7 f8 f9 f10
              go_step
              go_step
              go_step
              first | (go_step; go_meet) | (go_step; go_step; go_meet) | (refine Met.intro ?_; (repeat apply Exists.intro); refine ⟨?rel, rfl⟩) | ((repeat apply Exists.intro); refine ⟨?rel, rfl⟩) | fail
              exact ⟨HBF, HTF⟩
            case rest =>
              obtain ⟨HBF, HTF⟩ := hcut
              clear p0 p1 p2 p3 p4 p5 p6 p7 p8 p9 p10 q0 q1 q2 q3 q4 q5 q6 q7 q8 q9 q10 f0 f1 f2 f3 f4 f5 f6 f7 f8 f9 f10
              obtain ⟨⟨r0, r1, r2, r3, r4, r5, r6, r7, r8, r9, r10⟩, -⟩ := HBF.out.eleven
              first | (go_step; go_step; refine bodyPost_ret (v := .agg #[.string id, .int .i64 lim, .int .i64 y, .int .i64 most, .int .i64 sum, .slice AX H.length cX, .int .i64 r.1, .int .i64 r.2.1, .slice A8 r.2.2.1.length c8, .slice D8 r.2.2.2.length d8, .slice AL 0 cL]) (by simp [results, Tryd.results11, go_sem, r0, r1, r2, r3, r4, r5, r6, r7, r8, r9, r10]) rfl ?_) | (go_step; refine bodyPost_ret (v := .agg #[.string id, .int .i64 lim, .int .i64 y, .int .i64 most, .int .i64 sum, .slice AX H.length cX, .int .i64 r.1, .int .i64 r.2.1, .slice A8 r.2.2.1.length c8, .slice D8 r.2.2.2.length d8, .slice AL 0 cL]) (by simp [results, Tryd.results11, go_sem, r0, r1, r2, r3, r4, r5, r6, r7, r8, r9, r10]) rfl ?_) | fail
              have ht := HTF.out
              have hsz := ht.size
              obtain ⟨blim, bmost, bsum, hy0, hyl⟩ := HNUM.out
              have hz := HZ.out
              have hblt := HBL.out
              exact ⟨(id, lim, y, most, sum, H, r, []), _, _, _, _, rfl, acct_right HID.out blim bmost bsum hy0 (by rw [← HS2.out]; exact hyl) HHK.out HROK.out (by decide), ⟨_, _, _, _, _, _, HH17.out.turned ht (.inr (by omega)) (by omega), HM17.out.turned ht (.inr (by omega)) (by omega), slots_nil (lo := w17.heap.size) (hi := w17.heap.size) AL cL, ⟨by omega, by omega, by omega, by omega, by omega, by omega⟩, .inr (by omega), .inl (by omega), .inl (by omega)⟩, HO17.out.rest hblt ht (Nat.le_refl _)⟩
          · go_wp2_with fail
            refine (slotsDraw_any b sv i17 h17 w17 HC17.out hi17 (HR.out _ HO17.out.grown)).mono ?_
            rintro e w18 ⟨sl, A18, c18, rfl, hsok, hm18, ho18⟩
            have HSOK := Lib.hid hsok
            have ht18 := turned_of_grown ho18.grown
            have HO18 := Lib.hid (HO17.out.then ho18)
            have K18 := Lib.hid (K17.out.under ht18 (by omega))
            have B18 := Lib.hid (B17.out.under ht18 (by omega))
            have HM18 := Lib.hid (HM17.out.turned ht18 (.inr (by omega)) (by omega))
            have HH18 := Lib.hid (HH17.out.turned ht18 (.inr (by omega)) (by omega))
            have HS18 := Lib.hid hm18
            have z18 := ho18.size
            clear hsok ho18 hm18 ht18 HO17 K17 B17 HM17 HH17 HC17
            obtain ⟨⟨p0, p1, p2, p3, p4, p5, p6, p7, p8, p9, p10⟩, f0, f1, f2, f3, f4, f5, f6, f7, f8, f9, f10⟩ := K18.out.eleven
            go_upto_region 10 with fail
            obtain ⟨w19, hW⟩ : ∃ w19, w19 = w18.setCell ⟨p, 10, none⟩ (.slice A18 sl.length c18) := ⟨_, rfl⟩
            have ht19 : Turned p (p + 1) w18 w19 := by rw [hW]; exact (Turned.refl p (p + 1) w18).set (b := p) 10 _ (by omega) (by omega)
            have K19 : Hid (bk w19 p 29 [.string id, .int .i64 lim, .int .i64 y, .int .i64 most, .int .i64 sum, .slice AX H.length cX, .int .i64 r.1, .int .i64 r.2.1, .slice A8 r.2.2.1.length c8, .slice D8 r.2.2.2.length d8, .slice A18 sl.length c18]) := Lib.hid (by rw [hW]; exact K18.out.set 10 _)
            rw [← hW]
            have B19 := Lib.hid (B18.out.under ht19 (by omega))
            have HO19 := Lib.hid (HO18.out.rest hblt ht19 (by omega))
            have HM19 := Lib.hid (HM18.out.turned ht19 (.inr (by omega)) (by omega))
            have HH19 := Lib.hid (HH18.out.turned ht19 (.inr (by omega)) (by omega))
            have HS19 := Lib.hid (HS18.out.turned ht19 (.inr (by omega)) (Nat.le_refl _))
            have z19 := ht19.size
            clear hW ht19 p0 p1 p2 p3 p4 p5 p6 p7 p8 p9 p10 f0 f1 f2 f3 f4 f5 f6 f7 f8 f9 f10 HO18 K18 B18 HM18 HH18 HS18
            have HZ : Hid (w.heap.size + 1 ≤ w7.heap.size ∧ w7.heap.size ≤ w8.heap.size ∧ w8.heap.size ≤ w9.heap.size ∧ w9.heap.size ≤ w10.heap.size ∧ w10.heap.size ≤ w17.heap.size ∧ w17.heap.size ≤ w18.heap.size ∧ w18.heap.size ≤ w19.heap.size) := Lib.hid (by omega)
            have HNUM : Hid ((0 ≤ lim ∧ lim ≤ 9007199254740992) ∧ (0 ≤ most ∧ most ≤ 1000) ∧ (0 ≤ sum ∧ sum ≤ 9007199254740992) ∧ 0 ≤ y ∧ y + s2 ≤ lim) := Lib.hid ⟨blim, bmost, bsum, hy0, hyl⟩
            have HBL := Lib.hid hblt
            clear z7 hpw hz7 z8 z9 z10 hpz zc z11 z12 z13 z16 z17 blim bmost bsum hy0 hyl hlim0 hst0 hH4 n0 n1 sp0 sp1 hi0 hi1 hi2 hi3 hi4 hi5 hi7 hi9 hi12 hi13 hi16 hi17 hblt z18 z19
            obtain ⟨⟨p0, p1, p2, p3, p4, p5, p6, p7, p8, p9, p10⟩, -⟩ := K19.out.eleven
            obtain ⟨⟨q0, q1, q2, q3, q4, q5, q6, q7, q8, q9, q10⟩, f0, f1, f2, f3, f4, f5, f6, f7, f8, f9, f10⟩ := B19.out.eleven
            go_upto_region 10 with fail
            go_cut [] (fun wx => Hid (bk wx w.heap.size 29 [.string id, .int .i64 lim, .int .i64 y, .int .i64 most, .int .i64 sum, .slice AX H.length cX, .int .i64 r.1, .int .i64 r.2.1, .slice A8 r.2.2.1.length c8, .slice D8 r.2.2.2.length d8, .slice A18 sl.length c18]) ∧ Hid (Turned w.heap.size (w.heap.size + 1) w19 wx))
            case first =>
              iterate 4 (first | go_values | go_skip | go_guarded | go_step | go_upon)
              clear p0 p1 p2 p3 p4 p5 p6 p7 p8 p9 p10
              go_step
              go_simp
              obtain ⟨WF, hWF⟩ : ∃ WF, WF = (((((((((((w19.setCell ⟨w.heap.size, 0, none⟩ (.string id)).setCell ⟨w.heap.size, 1, none⟩ (.int .i64 lim)).setCell ⟨w.heap.size, 2, none⟩ (.int .i64 y)).setCell ⟨w.heap.size, 3, none⟩ (.int .i64 most)).setCell ⟨w.heap.size, 4, none⟩ (.int .i64 sum)).setCell ⟨w.heap.size, 5, none⟩ (.slice AX H.length cX)).setCell ⟨w.heap.size, 6, none⟩ (.int .i64 r.1)).setCell ⟨w.heap.size, 7, none⟩ (.int .i64 r.2.1)).setCell ⟨w.heap.size, 8, none⟩ (.slice A8 r.2.2.1.length c8)).setCell ⟨w.heap.size, 9, none⟩ (.slice D8 r.2.2.2.length d8)).setCell ⟨w.heap.size, 10, none⟩ (.slice A18 sl.length c18)) := ⟨_, rfl⟩
              have HTF : Hid (Turned w.heap.size (w.heap.size + 1) w19 WF) := Lib.hid (by rw [hWF]; exact (((((((((((Turned.refl w.heap.size (w.heap.size + 1) w19).set (b := w.heap.size) 0 (.string id) (Nat.le_refl _) (Nat.lt_succ_self _)).set (b := w.heap.size) 1 (.int .i64 lim) (Nat.le_refl _) (Nat.lt_succ_self _)).set (b := w.heap.size) 2 (.int .i64 y) (Nat.le_refl _) (Nat.lt_succ_self _)).set (b := w.heap.size) 3 (.int .i64 most) (Nat.le_refl _) (Nat.lt_succ_self _)).set (b := w.heap.size) 4 (.int .i64 sum) (Nat.le_refl _) (Nat.lt_succ_self _)).set (b := w.heap.size) 5 (.slice AX H.length cX) (Nat.le_refl _) (Nat.lt_succ_self _)).set (b := w.heap.size) 6 (.int .i64 r.1) (Nat.le_refl _) (Nat.lt_succ_self _)).set (b := w.heap.size) 7 (.int .i64 r.2.1) (Nat.le_refl _) (Nat.lt_succ_self _)).set (b := w.heap.size) 8 (.slice A8 r.2.2.1.length c8) (Nat.le_refl _) (Nat.lt_succ_self _)).set (b := w.heap.size) 9 (.slice D8 r.2.2.2.length d8) (Nat.le_refl _) (Nat.lt_succ_self _)).set (b := w.heap.size) 10 (.slice A18 sl.length c18) (Nat.le_refl _) (Nat.lt_succ_self _))
              have HBF : Hid (bk WF w.heap.size 29 [.string id, .int .i64 lim, .int .i64 y, .int .i64 most, .int .i64 sum, .slice AX H.length cX, .int .i64 r.1, .int .i64 r.2.1, .slice A8 r.2.2.1.length c8, .slice D8 r.2.2.2.length d8, .slice A18 sl.length c18]) := Lib.hid (by rw [hWF]; exact (((((((((((B19.out.set 0 _).set 1 _).set 2 _).set 3 _).set 4 _).set 5 _).set 6 _).set 7 _).set 8 _).set 9 _).set 10 _))
              rw [← hWF]
              clear hWF q0 q1 q2 q3 q4 q5 q6 q7 q8 q9 q10 f0 f1 f2 f3 f4 f5 f6 f7 f8 f9 f10
              go_step
              go_step
              go_step
              first | (go_step; go_meet) | (go_step; go_step; go_meet) | (refine Met.intro ?_; (repeat apply Exists.intro); refine ⟨?rel, rfl⟩) | ((repeat apply Exists.intro); refine ⟨?rel, rfl⟩) | fail
              exact ⟨HBF, HTF⟩
            case rest =>
              obtain ⟨HBF, HTF⟩ := hcut
              clear p0 p1 p2 p3 p4 p5 p6 p7 p8 p9 p10 q0 q1 q2 q3 q4 q5 q6 q7 q8 q9 q10 f0 f1 f2 f3 f4 f5 f6 f7 f8 f9 f10
              obtain ⟨⟨r0, r1, r2, r3, r4, r5, r6, r7, r8, r9, r10⟩, -⟩ := HBF.out.eleven
              first | (go_step; go_step; refine bodyPost_ret (v := .agg #[.string id, .int .i64 lim, .int .i64 y, .int .i64 most, .int .i64 sum, .slice AX H.length cX, .int .i64 r.1, .int .i64 r.2.1, .slice A8 r.2.2.1.length c8, .slice D8 r.2.2.2.length d8, .slice A18 sl.length c18]) (by simp [results, Tryd.results11, go_sem, r0, r1, r2, r3, r4, r5, r6, r7, r8, r9, r10]) rfl ?_) | (go_step; refine bodyPost_ret (v := .agg #[.string id, .int .i64 lim, .int .i64 y, .int .i64 most, .int .i64 sum, .slice AX H.length cX, .int .i64 r.1, .int .i64 r.2.1, .slice A8 r.2.2.1.length c8, .slice D8 r.2.2.2.length d8, .slice A18 sl.length c18]) (by simp [results, Tryd.results11, go_sem, r0, r1, r2, r3, r4, r5, r6, r7, r8, r9, r10]) rfl ?_) | fail
              have ht := HTF.out
              have hsz := ht.size
              obtain ⟨blim, bmost, bsum, hy0, hyl⟩ := HNUM.out
              have hz := HZ.out
              have hblt := HBL.out
              exact ⟨(id, lim, y, most, sum, H, r, sl), _, _, _, _, rfl, acct_right HID.out blim bmost bsum hy0 (by rw [← HS2.out]; exact hyl) HHK.out HROK.out HSOK.out, ⟨_, _, _, _, _, _, HH19.out.turned ht (.inr (by omega)) (by omega), HM19.out.turned ht (.inr (by omega)) (by omega), HS19.out.turned ht (.inr (by omega)) (by omega), ⟨by omega, by omega, by omega, by omega, by omega, by omega⟩, .inr (by omega), .inl (by omega), .inl (by omega)⟩, HO19.out.rest hblt ht (Nat.le_refl _)⟩
end Go.Proofs.YtkbakcnhhlmpkaaDoor
/- MakeAcct of the reference: a right account; no conditions. -/
set_option linter.unusedVariables false
namespace Go.Proofs.YtkbakcnhhlmpkaaDoor
open Go.ChangeShapes Go.WideShapes Go.ChangeAt Go.RowKit

set_option maxRecDepth 100000 in
theorem readable.up {w : World} {b c : Nat} {sv : Value} (hr : readable w b sv) (h : b ≤ c) : readable w c sv := by
  unfold readable at hr ⊢
  split at hr
  · exact hr
  · obtain ⟨h1, h3⟩ := hr
    refine ⟨h1, fun i hi => ?_⟩
    obtain ⟨s, off, e, h2, z, h4⟩ := h3 i hi
    exact ⟨s, off, e, by omega, z, h4⟩
  · exact hr
/-- an account as it is made -/
def acctMade (w : World) (e : Ending) (w' : World) : Prop := ∃ (a : AcctD) (vh vc vs vl : Value), e = .returned (.agg #[.string (aId a), .int .i64 (aLim a), .int .i64 (aPos a), .int .i64 (aMost a), .int .i64 (aSum a), vh, .int .i64 (aR a).1, .int .i64 (aR a).2.1, vc, vs, vl]) ∧ acctOk a = true ∧ AcctI w.heap.size w'.heap.size w' vh vc vs vl a ∧ Below w.heap.size w w'
set_option maxRecDepth 100000 in
set_option maxHeartbeats 3200000 in
theorem makeAcct_any (sv : Value) (w : World) (hr : readable w w.heap.size sv) (hlen : lenOf sv ≤ 1048576) :
    Calls Tryd.prog 4 #[sv] w (acctMade w) := by
  go_enter Tryd.func4, Tryd.ntmps4
  go_upto_region 1 with fail
  obtain ⟨w0, hW⟩ : ∃ w0, w0 = w.alloc (.cells #[.string ⟨#[]⟩, .int .i64 0, .int .i64 0, .int .i64 0, .int .i64 0, .slice none 0 0, .int .i64 0, .int .i64 0, .slice none 0 0, .slice none 0 0, .slice none 0 0] 29) := ⟨_, rfl⟩
  have B0 : Hid (bk w0 w.heap.size 29 [.string ⟨#[]⟩, .int .i64 0, .int .i64 0, .int .i64 0, .int .i64 0, .slice none 0 0, .int .i64 0, .int .i64 0, .slice none 0 0, .slice none 0 0, .slice none 0 0]) := Lib.hid (by rw [hW]; exact bk.new w _ _)
  have HB0 : Hid (Below w.heap.size w w0) := Lib.hid (by rw [hW]; exact (Below.refl _ _).alloc (Nat.le_refl _) _)
  have HR0 : Hid (readable w0 w0.heap.size sv) := Lib.hid (by rw [hW]; exact (hr.alloc _).up (by simp))
  have z0 : w.heap.size + 1 = w0.heap.size := by rw [hW]; simp
  rw [← hW]
  clear hW hr
  go_wp2_with fail
  refine (new_any sv w0 HR0.out hlen).mono ?_
  rintro e w1 ⟨h, rfl, rfl⟩
  obtain ⟨w1, hW1⟩ : ∃ w1, w1 = w0.alloc (.cells #[sv, .int .i64 0, .int .i64 h] 53) := ⟨_, rfl⟩
  have HC1 : Hid (curAt w1 w0.heap.size sv 0 h) := Lib.hid (by rw [hW1]; exact made_cur sv w0 h)
  have HR1 : Hid (readable w1 w0.heap.size sv) := Lib.hid (by rw [hW1]; exact HR0.out.alloc _)
  have HB1 : Hid (Below w.heap.size w w1) := Lib.hid (by rw [hW1]; exact HB0.out.alloc (by omega) _)
  have B1 : Hid (bk w1 w.heap.size 29 [.string ⟨#[]⟩, .int .i64 0, .int .i64 0, .int .i64 0, .int .i64 0, .slice none 0 0, .int .i64 0, .int .i64 0, .slice none 0 0, .slice none 0 0, .slice none 0 0]) := Lib.hid (by rw [hW1]; exact B0.out.alloc _)
  have z1 : w0.heap.size + 1 = w1.heap.size := by rw [hW1]; simp
  rw [← hW1]
  clear hW1 B0 HB0 HR0
  obtain ⟨b, hb⟩ : ∃ b, b = w0.heap.size := ⟨_, rfl⟩
  rw [← hb] at HC1 HR1
  have hbw : w.heap.size < b := by omega
  have HBE := Lib.hid hb
  have hb1 : b < w1.heap.size := by omega
  have HR : Hid (∀ w' : World, w1.grownBy w' (some b) → readable w' b sv) := Lib.hid fun w' hg => HR1.out.grownAt hg (by omega)
  go_wp2_with fail
  rw [← hb]
  have zb : w.heap.size + 1 ≤ w1.heap.size := by omega
  clear hb z0 z1
  refine (acctId_any b sv 0 h w1 HC1.out (Nat.zero_le _) HR1.out).mono ?_
  rintro e w2 ⟨id, rfl, hid, ho2⟩
  have HID := Lib.hid hid
  have HO2 := Lib.hid ho2
  have B2 := Lib.hid (B1.out.under (turned_of_grown ho2.grown) (by omega))
  have z2 := ho2.size
  clear ho2 hid B1 HC1 HR1
  obtain ⟨i2, h2, hi2, hc2, hg2⟩ := HO2.out
  have HC2 := Lib.hid hc2
  clear hc2 hg2
  go_wp2_with fail
  refine (acctDraw_any b sv id i2 h2 w2 HID.out HC2.out hi2 (HR.out _ HO2.out.grown)).mono ?_
  rintro e w3 ⟨⟨xi, lim, pos, most, sum, hs, ⟨sp, hd, cs, ss⟩, sl⟩, vh, vc, vs, vl, rfl, hok, hm, ho3⟩
  simp only [aId, aLim, aPos, aMost, aSum]
  have HOK := Lib.hid hok
  have HM := Lib.hid hm
  have HO3 := Lib.hid (HO2.out.then ho3)
  have B3 := Lib.hid (B2.out.under (turned_of_grown ho3.grown) (by omega))
  have z3 := ho3.size
  obtain ⟨vh', vc', vs', vl', hcs, r1, r2, r3, r4⟩ := acct_rd hm.mine.rd
  simp only [aCells, List.cons.injEq, and_true, true_and] at hcs
  obtain ⟨rfl, rfl, rfl, rfl⟩ := hcs
  obtain ⟨AH, cH, rfl, -⟩ := Rep.slice_form r1
  obtain ⟨AL, cL, rfl, -⟩ := Rep.slice_form r4
  obtain ⟨AC, cC, rfl, -⟩ := r2.form
  obtain ⟨AS, cS, rfl, -⟩ := r3.form
  simp only [aH, aS] at hm ⊢
  clear r1 r2 r3 r4 hok hm ho3 B2 HO2 HC2
  clear hi2
  go_upto_region 3 with fail
  obtain ⟨w4, hW⟩ : ∃ w4, w4 = w3.alloc (.cells #[.string (xi), .int .i64 (lim), .int .i64 (pos), .int .i64 (most), .int .i64 (sum), .slice AH hs.length cH, .int .i64 sp, .int .i64 hd, .slice AC cs.length cC, .slice AS ss.length cS, .slice AL sl.length cL] 29) := ⟨_, rfl⟩
  have K4 : Hid (bk w4 w3.heap.size 29 [.string (xi), .int .i64 (lim), .int .i64 (pos), .int .i64 (most), .int .i64 (sum), .slice AH hs.length cH, .int .i64 sp, .int .i64 hd, .slice AC cs.length cC, .slice AS ss.length cS, .slice AL sl.length cL]) := Lib.hid (by rw [hW]; exact bk.new w3 _ _)
  have B4 : Hid (bk w4 w.heap.size 29 [.string ⟨#[]⟩, .int .i64 0, .int .i64 0, .int .i64 0, .int .i64 0, .slice none 0 0, .int .i64 0, .int .i64 0, .slice none 0 0, .slice none 0 0, .slice none 0 0]) := Lib.hid (by rw [hW]; exact B3.out.alloc _)
  have HM4 : Hid (AcctI w2.heap.size w3.heap.size w4 (.slice AH hs.length cH) (.slice AC cs.length cC) (.slice AS ss.length cS) (.slice AL sl.length cL) (xi, lim, pos, most, sum, hs, (sp, hd, cs, ss), sl)) := Lib.hid (by rw [hW]; exact HM.out.below ((Below.refl w3.heap.size w3).alloc (Nat.le_refl _) _) (Nat.le_refl _))
  have HO4 : Hid (curOn b sv w1 w4) := Lib.hid (by rw [hW]; exact HO3.out.alloc _)
  have z4 : w3.heap.size + 1 = w4.heap.size := by rw [hW]; simp
  rw [← hW]
  clear hW B3 HM HO3
  clear HBE
  have HZ : Hid (w.heap.size + 1 ≤ w1.heap.size ∧ w1.heap.size ≤ w2.heap.size ∧ w2.heap.size ≤ w3.heap.size ∧ w3.heap.size + 1 ≤ w4.heap.size ∧ w.heap.size < b) := Lib.hid (by omega)
  have HB4 : Hid (Below w.heap.size w w4) := Lib.hid (HB1.out.trans (((turned_of_grown HO4.out.grown).below (B := w.heap.size) (by omega) (by omega))))
  clear z2 z3 z4 zb hbw hb1 HB1
  obtain ⟨⟨p0, p1, p2, p3, p4, p5, p6, p7, p8, p9, p10⟩, -⟩ := K4.out.eleven
  obtain ⟨⟨q0, q1, q2, q3, q4, q5, q6, q7, q8, q9, q10⟩, f0, f1, f2, f3, f4, f5, f6, f7, f8, f9, f10⟩ := B4.out.eleven
  go_cut [] (fun wx => Hid (bk wx w.heap.size 29 [.string (xi), .int .i64 (lim), .int .i64 (pos), .int .i64 (most), .int .i64 (sum), .slice AH hs.length cH, .int .i64 sp, .int .i64 hd, .slice AC cs.length cC, .slice AS ss.length cS, .slice AL sl.length cL]) ∧ Hid (Turned w.heap.size (w.heap.size + 1) w4 wx))
  case first =>
    iterate 4 (first | go_values | go_skip | go_guarded | go_step | go_upon)
    clear p0 p1 p2 p3 p4 p5 p6 p7 p8 p9 p10
    go_step
    go_simp
    obtain ⟨WF, hWF⟩ : ∃ WF, WF = (((((((((((w4.setCell ⟨w.heap.size, 0, none⟩ (.string (xi))).setCell ⟨w.heap.size, 1, none⟩ (.int .i64 (lim))).setCell ⟨w.heap.size, 2, none⟩ (.int .i64 (pos))).setCell ⟨w.heap.size, 3, none⟩ (.int .i64 (most))).setCell ⟨w.heap.size, 4, none⟩ (.int .i64 (sum))).setCell ⟨w.heap.size, 5, none⟩ (.slice AH hs.length cH)).setCell ⟨w.heap.size, 6, none⟩ (.int .i64 sp)).setCell ⟨w.heap.size, 7, none⟩ (.int .i64 hd)).setCell ⟨w.heap.size, 8, none⟩ (.slice AC cs.length cC)).setCell ⟨w.heap.size, 9, none⟩ (.slice AS ss.length cS)).setCell ⟨w.heap.size, 10, none⟩ (.slice AL sl.length cL)) := ⟨_, rfl⟩
    have HTF : Hid (Turned w.heap.size (w.heap.size + 1) w4 WF) := Lib.hid (by rw [hWF]; exact (((((((((((Turned.refl w.heap.size (w.heap.size + 1) w4).set (b := w.heap.size) 0 (.string (xi)) (Nat.le_refl _) (Nat.lt_succ_self _)).set (b := w.heap.size) 1 (.int .i64 (lim)) (Nat.le_refl _) (Nat.lt_succ_self _)).set (b := w.heap.size) 2 (.int .i64 (pos)) (Nat.le_refl _) (Nat.lt_succ_self _)).set (b := w.heap.size) 3 (.int .i64 (most)) (Nat.le_refl _) (Nat.lt_succ_self _)).set (b := w.heap.size) 4 (.int .i64 (sum)) (Nat.le_refl _) (Nat.lt_succ_self _)).set (b := w.heap.size) 5 (.slice AH hs.length cH) (Nat.le_refl _) (Nat.lt_succ_self _)).set (b := w.heap.size) 6 (.int .i64 sp) (Nat.le_refl _) (Nat.lt_succ_self _)).set (b := w.heap.size) 7 (.int .i64 hd) (Nat.le_refl _) (Nat.lt_succ_self _)).set (b := w.heap.size) 8 (.slice AC cs.length cC) (Nat.le_refl _) (Nat.lt_succ_self _)).set (b := w.heap.size) 9 (.slice AS ss.length cS) (Nat.le_refl _) (Nat.lt_succ_self _)).set (b := w.heap.size) 10 (.slice AL sl.length cL) (Nat.le_refl _) (Nat.lt_succ_self _))
    have HBF : Hid (bk WF w.heap.size 29 [.string (xi), .int .i64 (lim), .int .i64 (pos), .int .i64 (most), .int .i64 (sum), .slice AH hs.length cH, .int .i64 sp, .int .i64 hd, .slice AC cs.length cC, .slice AS ss.length cS, .slice AL sl.length cL]) := Lib.hid (by rw [hWF]; exact (((((((((((B4.out.set 0 _).set 1 _).set 2 _).set 3 _).set 4 _).set 5 _).set 6 _).set 7 _).set 8 _).set 9 _).set 10 _))
    rw [← hWF]
    clear hWF q0 q1 q2 q3 q4 q5 q6 q7 q8 q9 q10 f0 f1 f2 f3 f4 f5 f6 f7 f8 f9 f10
    go_step
    go_step
    go_step
    first | (go_step; go_meet) | (go_step; go_step; go_meet) | (refine Met.intro ?_; (repeat apply Exists.intro); refine ⟨?rel, rfl⟩) | ((repeat apply Exists.intro); refine ⟨?rel, rfl⟩) | fail
    exact ⟨HBF, HTF⟩
  case rest =>
    obtain ⟨HBF, HTF⟩ := hcut
    clear p0 p1 p2 p3 p4 p5 p6 p7 p8 p9 p10 q0 q1 q2 q3 q4 q5 q6 q7 q8 q9 q10 f0 f1 f2 f3 f4 f5 f6 f7 f8 f9 f10
    obtain ⟨⟨r0, r1, r2, r3, r4, r5, r6, r7, r8, r9, r10⟩, -⟩ := HBF.out.eleven
    first | (go_step; go_step; refine bodyPost_ret (v := .agg #[.string (xi), .int .i64 (lim), .int .i64 (pos), .int .i64 (most), .int .i64 (sum), .slice AH hs.length cH, .int .i64 sp, .int .i64 hd, .slice AC cs.length cC, .slice AS ss.length cS, .slice AL sl.length cL]) (by simp [results, Tryd.results4, go_sem, r0, r1, r2, r3, r4, r5, r6, r7, r8, r9, r10]) rfl ?_) | (go_step; refine bodyPost_ret (v := .agg #[.string (xi), .int .i64 (lim), .int .i64 (pos), .int .i64 (most), .int .i64 (sum), .slice AH hs.length cH, .int .i64 sp, .int .i64 hd, .slice AC cs.length cC, .slice AS ss.length cS, .slice AL sl.length cL]) (by simp [results, Tryd.results4, go_sem, r0, r1, r2, r3, r4, r5, r6, r7, r8, r9, r10]) rfl ?_) | fail
    have ht := HTF.out
    have hsz := ht.size
    have hz := HZ.out
    exact ⟨(xi, lim, pos, most, sum, hs, (sp, hd, cs, ss), sl), _, _, _, _, rfl, HOK.out, (HM4.out.turned ht (.inr (by omega)) (by omega)).mono (by omega) (by omega), HB4.out.trans (ht.below (by omega) (by omega))⟩
end Go.Proofs.YtkbakcnhhlmpkaaDoor
/- SubMoney of the program and of the reference return the same two values; no conditions. -/
set_option linter.unusedVariables false
namespace Go.Proofs.YtkbakcnhhlmpkaaDoor
open Go.ChangeShapes Go.WideShapes Go.ChangeAt Go.RowKit

/-- the difference of two amounts, where it is one -/
def subOk (a b : Int) : Bool := isMon a && isMon b && decide (b ≤ a)
def subVal (a b : Int) : Int := if subOk a b = true then a - b else 0

set_option maxRecDepth 100000 in
set_option maxHeartbeats 400000 in
theorem implSub_any (a b : Int) (w : World) : Calls Tryd.prog 6 #[.int .i64 a, .int .i64 b] w fun e w' => e = .returned (.tuple #[.int .i64 (subVal a b), .bool (subOk a b)]) ∧ w = w' := by
  cases ha : isMon a
  · go_enter Tryd.func6, Tryd.ntmps6
    go_wp2_with (go_at_call 14; refine (isMoney_any _ _).mono ?_; rintro e w' ⟨rfl, rfl⟩)
    go_ret2
    exact ⟨by simp [subVal, subOk, ha], rfl⟩
  cases hb : isMon b
  · go_enter Tryd.func6, Tryd.ntmps6
    go_wp2_with (go_at_call 14; refine (isMoney_any _ _).mono ?_; rintro e w' ⟨rfl, rfl⟩)
    go_ret2
    exact ⟨by simp [subVal, subOk, hb], rfl⟩
  have h1 := isMon_true ha
  have h2 := isMon_true hb
  by_cases hlt : a < b
  all_goals
    go_enter Tryd.func6, Tryd.ntmps6
    go_wp2_with (go_at_call 14; refine (isMoney_any _ _).mono ?_; rintro e w' ⟨rfl, rfl⟩)
    go_ret2
    exact ⟨by simp [subVal, subOk, ha, hb]; omega, rfl⟩
end Go.Proofs.YtkbakcnhhlmpkaaDoor
/- The reference's NumText: the decimal digits of money; no conditions. -/
set_option linter.unusedVariables false
namespace Go.Proofs.YtkbakcnhhlmpkaaDoor
open Go.ChangeShapes Go.WideShapes Go.ChangeAt Go.RowKit

/-- the text of money; nothing for what is none -/
def numOf (n : Int) : List UInt8 := if isMon n = true then Lib.decDigits n.toNat else []
abbrev strOf (l : List UInt8) : Value := .string ⟨l.toArray⟩

set_option maxRecDepth 100000 in
theorem str_app (a b : List UInt8) : ((⟨a.toArray⟩ : ByteArray) ++ (⟨b.toArray⟩ : ByteArray)) = ⟨(a ++ b).toArray⟩ := by apply ByteArray.ext; simp
set_option maxRecDepth 100000 in
theorem str_cons (c : UInt8) (b : List UInt8) : ((⟨#[c]⟩ : ByteArray) ++ (⟨b.toArray⟩ : ByteArray)) = ⟨(c :: b).toArray⟩ := str_app [c] b
set_option maxRecDepth 100000 in
theorem digits_big {n : Nat} (h : 9 < n) : Lib.decDigits n = Lib.decDigits (n / 10) ++ [UInt8.ofNat (48 + n % 10)] := by
  rw [Lib.decDigits, dif_neg (by omega)]
set_option maxRecDepth 100000 in
theorem digits_len (n : Nat) (h : n ≤ 4611686018427387904) : (Lib.decDigits n).length ≤ 20 := by
  rw [Lib.decDigits_length]; exact Lib.nDigits_le20 n (by omega)

end Go.Proofs.YtkbakcnhhlmpkaaDoor
/- The number that a text of digits denotes; no conditions. -/
set_option linter.unusedVariables false
namespace Go.Proofs.YtkbakcnhhlmpkaaDoor
open Go.ChangeShapes Go.WideShapes Go.ChangeAt Go.RowKit

def decStep (n : Int) (c : UInt8) : Int := 10 * n + ((c.toNat : Int) - 48)
/-- the number that the digits denote -/
def decOf (l : List UInt8) : Int := l.foldl decStep 0
/-- do the digits denote money? -/
def scanOk (s : ByteArray) : Bool := digs s && decide (decOf s.data.toList ≤ 4611686018427387904)

set_option maxRecDepth 100000 in
theorem dec_snoc (s : ByteArray) (k : Nat) (h : k < s.size) : decOf (s.data.toList.take (k + 1)) = 10 * decOf (s.data.toList.take k) + ((s[k].toNat : Int) - 48) := by
  rw [take_one s k h]; simp [decOf, List.foldl_append, decStep]
set_option maxRecDepth 100000 in
theorem dec_nonneg : ∀ (l : List UInt8) (n : Int), 0 ≤ n → l.all isDig = true → n ≤ l.foldl decStep n
  | [], n, _, _ => Int.le_refl _
  | c :: l, n, h0, hd => by
    simp only [List.all_cons, Bool.and_eq_true] at hd
    have h1 := (isDig_iff c).1 hd.1
    have h2 : n ≤ decStep n c := by unfold decStep; omega
    exact Int.le_trans h2 (dec_nonneg l (decStep n c) (by omega) hd.2)
set_option maxRecDepth 100000 in
theorem dec_split (l : List UInt8) (k : Nat) : decOf l = (l.drop k).foldl decStep (decOf (l.take k)) := by
  unfold decOf
  rw [← List.foldl_append, List.take_append_drop]
set_option maxRecDepth 100000 in
theorem all_drop (l : List UInt8) (k : Nat) (h : l.all isDig = true) : (l.drop k).all isDig = true := by
  rw [List.all_eq_true] at h ⊢
  exact fun x hx => h x (List.mem_of_mem_drop hx)
set_option maxRecDepth 100000 in
theorem all_take (l : List UInt8) (k : Nat) (h : l.all isDig = true) : (l.take k).all isDig = true := by
  rw [List.all_eq_true] at h ⊢
  exact fun x hx => h x (List.mem_of_mem_take hx)
set_option maxRecDepth 100000 in
theorem dec_pos (l : List UInt8) (h : l.all isDig = true) : 0 ≤ decOf l := dec_nonneg l 0 (Int.le_refl _) h
set_option maxRecDepth 100000 in
theorem digs_all {s : ByteArray} (h : digs s = true) : s.data.toList.all isDig = true := by
  simp only [digs, Bool.and_eq_true] at h; exact h.2
set_option maxRecDepth 100000 in
/-- a first part denotes no more than the whole -/
theorem dec_mono (s : ByteArray) (k : Nat) (h : digs s = true) : decOf (s.data.toList.take k) ≤ decOf s.data.toList := by
  have hd := digs_all h
  rw [dec_split s.data.toList k]
  exact dec_nonneg _ _ (dec_pos _ (all_take _ k hd)) (all_drop _ k hd)
set_option maxRecDepth 100000 in
/-- what passes the limit in the midst is no money -/
theorem scan_over (s : ByteArray) (k : Nat) (h : k < s.size) (ho : 4611686018427387904 < decOf (s.data.toList.take (k + 1))) : scanOk s = false := by
  cases hd : digs s
  · simp [scanOk, hd]
  · have := dec_mono s (k + 1) hd
    simp only [scanOk, hd, Bool.true_and]
    exact decide_eq_false (by omega)
set_option maxRecDepth 100000 in
theorem scan_bad (s : ByteArray) (h : digs s = false) : scanOk s = false := by simp [scanOk, h]
set_option maxRecDepth 100000 in
theorem scan_good (s : ByteArray) (k : Nat) (hk : ¬ k < s.size) (h0 : 0 < s.size) (ha : (s.data.toList.take k).all isDig = true) (hm : decOf (s.data.toList.take k) ≤ 4611686018427387904) : scanOk s = true := by
  simp only [scanOk, digs_yes s k hk h0 ha, Bool.true_and]
  rw [take_end s k hk] at hm
  exact decide_eq_true hm
set_option maxRecDepth 100000 in
theorem scan_digs {s : ByteArray} (h : scanOk s = true) : digs s = true ∧ decOf s.data.toList ≤ 4611686018427387904 := by
  simp only [scanOk, Bool.and_eq_true, decide_eq_true_eq] at h; exact h
set_option maxRecDepth 100000 in
theorem empty_yes (s : ByteArray) (h : ¬ 0 < s.size) : s.toList.isEmpty = true := by
  have := not_empty s
  rw [decide_eq_false h] at this
  simpa using this
set_option maxRecDepth 100000 in
theorem empty_no (s : ByteArray) (h : 0 < s.size) : s.toList.isEmpty = false := by
  have := not_empty s
  rw [decide_eq_true h] at this
  simpa using this
end Go.Proofs.YtkbakcnhhlmpkaaDoor
/- The texts of money: digits without a leading zero; no conditions. -/
set_option linter.unusedVariables false
namespace Go.Proofs.YtkbakcnhhlmpkaaDoor
open Go.ChangeShapes Go.WideShapes Go.ChangeAt Go.RowKit

/-- does the text begin with a zero that stands for nothing? -/
def lead : List UInt8 → Bool
  | c :: _ :: _ => c == 48
  | _ => false
def txtOk (s : ByteArray) : Bool := scanOk s && !lead s.data.toList
def txtVal (s : ByteArray) : Int := if txtOk s = true then decOf s.data.toList else 0

set_option maxRecDepth 100000 in
theorem digits_head : ∀ (u : Nat), 1 ≤ u → ∃ c r, Lib.decDigits u = c :: r ∧ c ≠ 48 := by
  intro u
  induction u using Nat.strongRecOn with
  | _ u ih =>
    intro h1
    by_cases h : u < 10
    · refine ⟨UInt8.ofNat (48 + u), [], Lib.decDigits_one h, ?_⟩
      intro e
      have := congrArg UInt8.toNat e
      rw [UInt8.toNat_ofNat'] at this
      simp at this
      omega
    · obtain ⟨c, r, e, hc⟩ := ih (u / 10) (by omega) (by omega)
      refine ⟨c, r ++ [UInt8.ofNat (48 + u % 10)], ?_, hc⟩
      rw [Lib.decDigits, dif_neg h, e]; rfl
set_option maxRecDepth 100000 in
/-- what has a leading zero is the text of no number -/
theorem lead_no (l : List UInt8) (u : Nat) (h : lead l = true) : Lib.decDigits u ≠ l := by
  intro e
  match l, h with
  | c :: d :: r, h =>
    have hc : c = 48 := by simpa [lead] using h
    rcases Nat.eq_zero_or_pos u with h0 | h0
    · subst h0
      rw [Lib.decDigits_one (by decide)] at e
      simp at e
    · obtain ⟨c', r', e', hc'⟩ := digits_head u h0
      rw [e'] at e
      simp only [List.cons.injEq] at e
      exact hc' (e.1.trans hc)
set_option maxRecDepth 100000 in
theorem dec_app (m : List UInt8) (c : UInt8) : decOf (m ++ [c]) = 10 * decOf m + ((c.toNat : Int) - 48) := by simp [decOf, List.foldl_append, decStep]
set_option maxRecDepth 100000 in
theorem dec_head (c : UInt8) (r : List UInt8) (hd : (c :: r).all isDig = true) (hc : c ≠ 48) : 1 ≤ decOf (c :: r) := by
  simp only [List.all_cons, Bool.and_eq_true] at hd
  have h1 := (isDig_iff c).1 hd.1
  have h2 : c.toNat ≠ 48 := fun e => hc (UInt8.toNat_inj.1 (by simpa using e))
  have h3 : 1 ≤ decStep 0 c := by unfold decStep; omega
  exact Int.le_trans h3 (dec_nonneg r _ (by omega) hd.2)
set_option maxRecDepth 100000 in
/-- what has none is the text of its number -/
theorem lead_yes : ∀ (n : Nat) (l : List UInt8), l.length = n → l ≠ [] → l.all isDig = true → lead l = false → Lib.decDigits (decOf l).toNat = l := by
  intro n
  induction n with
  | zero => intro l hl hne _ _; exact absurd (List.eq_nil_of_length_eq_zero hl) hne
  | succ n ih =>
    intro l hl hne hd hlead
    obtain ⟨m, c, rfl⟩ : ∃ m c, l = m ++ [c] := ⟨l.dropLast, l.getLast hne, (List.dropLast_concat_getLast hne).symm⟩
    have hm : m.all isDig = true := by simp only [List.all_append, Bool.and_eq_true] at hd; exact hd.1
    have hc : isDig c = true := by simpa using (by simp only [List.all_append, Bool.and_eq_true] at hd; exact hd.2 : [c].all isDig = true)
    have h1 := (isDig_iff c).1 hc
    have hcn : ∀ j : Nat, j = c.toNat - 48 → UInt8.ofNat (48 + j) = c := fun j hj => by rw [hj, show 48 + (c.toNat - 48) = c.toNat by omega]; simp
    rw [dec_app]
    cases m with
    | nil =>
      have : (10 * decOf [] + ((c.toNat : Int) - 48)).toNat = c.toNat - 48 := by simp [decOf]; omega
      rw [this, Lib.decDigits_one (by omega), hcn _ rfl]; rfl
    | cons b r =>
      have hb : b ≠ 48 := by
        intro e
        have : lead ((b :: r) ++ [c]) = true := by cases r <;> simp [lead, e]
        rw [this] at hlead; cases hlead
      have hpos := dec_head b r hm hb
      have hlm : lead (b :: r) = false := by cases r <;> simp [lead, hb]
      have hi := ih (b :: r) (by simp at hl ⊢; omega) (by simp) hm hlm
      generalize hq : decOf (b :: r) = q at hi hpos
      rw [Lib.decDigits, dif_neg (by omega), show (10 * q + ((c.toNat : Int) - 48)).toNat / 10 = q.toNat by omega, hi, hcn _ (by omega)]
set_option maxRecDepth 100000 in
theorem nd_le : ∀ (k u : Nat), u < 10 ^ (k + 1) → Lib.nDigits u ≤ k + 1
  | 0, u, h => by rw [Lib.nDigits_small (by simpa using h)]; exact Nat.le_refl _
  | k + 1, u, h => by
    by_cases h1 : u < 10
    · rw [Lib.nDigits_small h1]; omega
    · rw [Lib.nDigits_big h1]
      have := nd_le k (u / 10) (by rw [Nat.pow_succ] at h; omega)
      omega
set_option maxRecDepth 100000 in
theorem txt_short {s : ByteArray} (h : txtOk s = true) : s.size ≤ 19 ∧ Lib.decDigits (decOf s.data.toList).toNat = s.data.toList := by
  simp only [txtOk, Bool.and_eq_true, Bool.not_eq_true'] at h
  have h2 := scan_digs h.1
  have hne : s.data.toList ≠ [] := by
    intro e
    have h4 : s.data.toList.length = s.size := by simp
    rw [e] at h4
    have := digs_pos h2.1
    simp only [List.length_nil] at h4
    omega
  have h5 := lead_yes _ s.data.toList rfl hne (digs_all h2.1) h.2
  refine ⟨?_, h5⟩
  have h6 := congrArg List.length h5
  rw [Lib.decDigits_length] at h6
  have h7 := nd_le 18 (decOf s.data.toList).toNat (by have := h2.2; omega)
  have h4 : s.data.toList.length = s.size := by simp
  omega
set_option maxRecDepth 100000 in
theorem digs_ne {s : ByteArray} (h : digs s = true) : s.data.toList ≠ [] := by
  intro e
  have h4 : s.data.toList.length = s.size := by simp
  rw [e] at h4
  have := digs_pos h
  simp only [List.length_nil] at h4
  omega
set_option maxRecDepth 100000 in
/-- the text of the number is the text itself: no leading zero -/
theorem txt_eq {s : ByteArray} (hd : digs s = true) (hsc : scanOk s = true) : txtOk s = (Lib.decDigits (decOf s.data.toList).toNat == s.data.toList) := by
  cases hl : lead s.data.toList
  · have := lead_yes _ s.data.toList rfl (digs_ne hd) (digs_all hd) hl
    rw [this]; simp [txtOk, hsc, hl]
  · have := lead_no s.data.toList (decOf s.data.toList).toNat hl
    simp only [txtOk, hsc, hl, Bool.true_and, Bool.not_true]
    exact (beq_eq_false_iff_ne.2 this).symm
set_option maxRecDepth 100000 in
theorem lead_list : ∀ (l : List UInt8) (h : 1 < l.length), lead l = (l[0]'(by omega) == 48)
  | [], h => by simp at h
  | [a], h => by simp at h
  | a :: b :: r, h => rfl
set_option maxRecDepth 100000 in
theorem lead_get {s : ByteArray} (h : 1 < s.size) : lead s.data.toList = (s[0] == 48) := lead_list s.data.toList (by simpa using h)
set_option maxRecDepth 100000 in
theorem lead_one : ∀ (l : List UInt8) (h : ¬ 1 < l.length), lead l = false
  | [], h => rfl
  | [a], h => rfl
  | a :: b :: r, h => by simp at h
set_option maxRecDepth 100000 in
theorem lead_short {s : ByteArray} (h : ¬ 1 < s.size) : lead s.data.toList = false := lead_one s.data.toList (by simpa using h)
end Go.Proofs.YtkbakcnhhlmpkaaDoor
/- What FnMoney says of plain numbers: a sum taken back, the text of a number read again; no conditions. -/
set_option linter.unusedVariables false
namespace Go.Proofs.YtkbakcnhhlmpkaaDoor
open Go.ChangeShapes Go.WideShapes Go.ChangeAt Go.RowKit

set_option maxRecDepth 100000 in
theorem digit_back (k : Nat) (h : k < 10) : isDig (UInt8.ofNat (48 + k)) = true ∧ ((UInt8.ofNat (48 + k)).toNat : Int) - 48 = k := by
  have h1 : (UInt8.ofNat (48 + k)).toNat = 48 + k := by rw [UInt8.toNat_ofNat']; omega
  exact ⟨(isDig_iff _).2 (by omega), by rw [h1]; omega⟩
set_option maxRecDepth 100000 in
theorem dec_back (u : Nat) : (Lib.decDigits u).all isDig = true ∧ decOf (Lib.decDigits u) = u ∧ 0 < (Lib.decDigits u).length := by
  induction u using Nat.strongRecOn with
  | _ u ih =>
    by_cases h : u < 10
    · rw [Lib.decDigits_one h]
      obtain ⟨h1, h2⟩ := digit_back u h
      generalize UInt8.ofNat (48 + u) = c at h1 h2
      exact ⟨by simp [h1], by simp [decOf, decStep, h2], by simp⟩
    · obtain ⟨h1, h2, h3⟩ := ih (u / 10) (by omega)
      obtain ⟨h4, h5⟩ := digit_back (u % 10) (by omega)
      rw [digits_big (by omega)]
      generalize UInt8.ofNat (48 + u % 10) = c at h4 h5
      exact ⟨by simp [h1, h4], by rw [dec_app, h2, h5]; omega, by simp⟩
set_option maxRecDepth 100000 in
theorem text_back (n : Int) (h0 : 0 ≤ n) (h1 : n ≤ 4611686018427387904) : txtOk ⟨(numOf n).toArray⟩ = true ∧ txtVal ⟨(numOf n).toArray⟩ = n ∧ (numOf n).length ≤ 20 := by
  have hm : isMon n = true := by simp [isMon, h0, h1]
  have hn : numOf n = Lib.decDigits n.toNat := by simp [numOf, hm]
  obtain ⟨h2, h3, h4⟩ := dec_back n.toNat
  have hl : lead (Lib.decDigits n.toNat) = false := by
    cases hl : lead (Lib.decDigits n.toNat)
    · rfl
    · exact absurd rfl (lead_no _ n.toNat hl)
  have hd : digs ⟨(Lib.decDigits n.toNat).toArray⟩ = true := by
    unfold digs
    have : (⟨(Lib.decDigits n.toNat).toArray⟩ : ByteArray).size = (Lib.decDigits n.toNat).length := rfl
    rw [this, decide_eq_true h4]
    simpa using h2
  have hs : scanOk ⟨(Lib.decDigits n.toNat).toArray⟩ = true := by
    unfold scanOk
    rw [hd]
    simp only [Bool.true_and, decide_eq_true_eq]
    rw [h3]; omega
  have hok : txtOk ⟨(Lib.decDigits n.toNat).toArray⟩ = true := by
    unfold txtOk
    rw [hs]
    simpa using hl
  rw [hn]
  refine ⟨hok, ?_, digits_len n.toNat (by omega)⟩
  unfold txtVal
  rw [if_pos hok]
  show decOf (Lib.decDigits n.toNat) = n
  rw [h3]; omega
set_option maxRecDepth 100000 in
/-- the sums of a right account -/
theorem money_plain {pos lim : Int} (h1 : isMon pos = true) (h2 : 0 ≤ lim) (h3 : lim ≤ 9007199254740992) (hp : pos ≤ lim) :
    addOk pos lim = true ∧ addVal pos lim = pos + lim ∧ subOk (pos + lim) lim = true ∧ subVal (pos + lim) lim = pos ∧ subOk pos (lim + 1) = false ∧ satVal (pos + lim) 4611686018427387904 = 4611686018427387904 ∧ satVal pos lim = pos + lim := by
  simp only [isMon, Bool.and_eq_true, decide_eq_true_eq] at h1
  have c1 : clampM pos = pos := by unfold clampM; rw [if_neg (by omega), if_neg (by omega)]
  have c2 : clampM lim = lim := by unfold clampM; rw [if_neg (by omega), if_neg (by omega)]
  have c3 : clampM (pos + lim) = pos + lim := by unfold clampM; rw [if_neg (by omega), if_neg (by omega)]
  have c4 : clampM 4611686018427387904 = 4611686018427387904 := by unfold clampM; rw [if_neg (by omega), if_neg (by omega)]
  have ha : addOk pos lim = true := by simp [addOk, isMon]; omega
  refine ⟨ha, by simp [addVal, ha], ?_, ?_, ?_, ?_, ?_⟩
  · simp [subOk, isMon]; omega
  · have : subOk (pos + lim) lim = true := by simp [subOk, isMon]; omega
    simp [subVal, this]
  · simp [subOk, isMon]; omega
  · unfold satVal
    rw [c3, c4]
    by_cases h : addOk (pos + lim) 4611686018427387904 = true
    · rw [if_pos h]
      simp [addOk, isMon] at h
      omega
    · rw [if_neg h]
  · unfold satVal
    rw [c1, c2, if_pos ha]
set_option maxRecDepth 100000 in
theorem satVal_up {a b : Int} (h : isMon a = true) : a ≤ satVal a b := by
  have h' := h
  simp only [isMon, Bool.and_eq_true, decide_eq_true_eq] at h'
  have c1 : clampM a = a := by unfold clampM; rw [if_neg (by omega), if_neg (by omega)]
  have := clampM_bd b
  unfold satVal
  rw [c1]
  split <;> omega
set_option maxRecDepth 100000 in
theorem acct_money {a : AcctD} (h : acctOk a = true) : isMon (aPos a) = true ∧ 0 ≤ aLim a ∧ aLim a ≤ 9007199254740992 ∧ aPos a ≤ aLim a := by
  unfold acctOk acctHead acctTail inB at h
  simp only [Bool.and_eq_true, decide_eq_true_eq] at h
  obtain ⟨⟨-, ⟨h1, h2⟩, -, -, h3⟩, -, -, -, h4⟩ := h
  exact ⟨h3, h1, h2, Int.le_trans (satVal_up h3) h4⟩
set_option maxRecDepth 100000 in
theorem cell_in {w : World} {b o : Nat} {v : Value} (h : w.cell? ⟨b, o, none⟩ = some v) : b < w.heap.size := by
  rcases Nat.lt_or_ge b w.heap.size with h' | h'
  · exact h'
  · simp [World.cell?, Array.getElem?_eq_none h'] at h
set_option maxRecDepth 100000 in
theorem tab_in {w : World} (htab : Lib.TabIs Tryd.prog w "internal/strconv.uint64pow10" .u64 Lib.pow10Tab) : 3 < w.heap.size := by
  unfold Lib.TabIs World.var? at htab
  rw [show Tryd.prog.globalNamed "internal/strconv.uint64pow10" = some 3 by kernel_rfl] at htab
  rcases Nat.lt_or_ge 3 w.heap.size with h | h
  · exact h
  · simp [Array.getElem?_eq_none h] at htab
end Go.Proofs.YtkbakcnhhlmpkaaDoor
/- The program's NumText: the decimal digits of money; the library's table of powers of ten holds its numbers. -/
set_option linter.unusedVariables false
namespace Go.Proofs.YtkbakcnhhlmpkaaDoor
open Go.ChangeShapes Go.WideShapes Go.ChangeAt Go.RowKit

set_option maxRecDepth 100000 in
theorem itoa_mon {n : Int} (h : isMon n = true) : Lib.itoa n = numOf n := by
  have hb := isMon_true h
  unfold Lib.itoa numOf
  rw [if_neg (by omega), if_pos h]
set_option maxRecDepth 100000 in
theorem below_grown (w : World) (k : Nat) (os : Array Obj) : Below w.heap.size w (Sort.grow (w.drewN k) os) := Lib.below_grow _ w (Nat.le_refl _) k os

set_option maxRecDepth 100000 in
theorem implNum_any (n : Int) (w : World) (htab : Lib.TabIs Tryd.prog w "internal/strconv.uint64pow10" .u64 Lib.pow10Tab) :
    Calls Tryd.prog 8 #[.int .i64 n] w fun e w' => e = .returned (strOf (numOf n)) ∧ Below w.heap.size w w' := by
  cases hm : isMon n
  · have hv : numOf n = [] := by simp [numOf, hm]
    rw [hv]
    go_enter Tryd.func8, Tryd.ntmps8
    go_wp2_with (go_at_call 14; refine (isMoney_any _ _).mono ?_; rintro e w' ⟨rfl, rfl⟩)
    go_ret
    exact ⟨rfl, Below.refl _ _⟩
  · have hb := isMon_true hm
    have hi := Lib.hid (itoa_mon hm)
    go_enter Tryd.func8, Tryd.ntmps8
    go_wp2_with (first | (go_at_call 14; refine (isMoney_any _ _).mono ?_; rintro e w' ⟨rfl, rfl⟩) | (go_at_call 16; refine (Tryd.strconv_Itoa n (by omega) (by omega) _ htab).mono ?_; rintro e w' ⟨rfl, k, os, rfl⟩))
    go_ret
    exact ⟨by rw [hi.out]; rfl, below_grown _ _ _⟩
end Go.Proofs.YtkbakcnhhlmpkaaDoor
/- scanMoney: the money that a text of digits denotes, or an error; the program's error variable holds an error. -/
set_option linter.unusedVariables false
namespace Go.Proofs.YtkbakcnhhlmpkaaDoor
open Go.ChangeShapes Go.WideShapes Go.ChangeAt Go.RowKit

/-- what scanMoney comes to -/
def scanEnd (s : ByteArray) (e : Ending) : Prop :=
  if scanOk s = true then e = .returned (.tuple #[.int .i64 (decOf s.data.toList), .nilIface]) else ∃ t v, e = .returned (.tuple #[.int .i64 0, .iface t v])
set_option maxRecDepth 100000 in
theorem scanEnd_no {s : ByteArray} (h : scanOk s = false) {t : TypeId} {v : Value} : scanEnd s (.returned (.tuple #[.int .i64 0, .iface t v])) := by
  unfold scanEnd; rw [if_neg (by simp [h])]; exact ⟨t, v, rfl⟩
set_option maxRecDepth 100000 in
theorem scanEnd_yes {s : ByteArray} (h : scanOk s = true) {n : Int} (hn : n = decOf s.data.toList) : scanEnd s (.returned (.tuple #[.int .i64 n, .nilIface])) := by
  unfold scanEnd; rw [if_pos h, hn]

set_option maxRecDepth 100000 in
set_option maxHeartbeats 800000 in
theorem scan_any (s : ByteArray) (w : World) (p : Addr) (hg : 1 < w.heap.size) (hc : w.cell? ⟨1, 0, none⟩ = some (.iface 137 (.pointer (some p)))) :
    Calls Tryd.prog 15 #[.string s] w fun e w' => scanEnd s e ∧ Below w.heap.size w w' := by
  by_cases h0 : 0 < s.size
  · have hE := empty_no s h0
    have hci : ∀ pos, (w.iter s pos).cell? ⟨1, 0, none⟩ = some (.iface 137 (.pointer (some p))) := fun pos => cell?_alloc_old _ hc
    clear hc
    go_enter Tryd.func15, Tryd.ntmps15
    go_wp2
    go_loopw [2, 3, 4] (fun _ _ n wr => ∃ k : Nat, k ≤ s.size ∧ wr = w.iter s k ∧ (s.data.toList.take k).all isDig = true ∧ n = .int .i64 (decOf (s.data.toList.take k)) ∧ 0 ≤ decOf (s.data.toList.take k) ∧ decOf (s.data.toList.take k) ≤ 4611686018427387904) (fun _ _ _ wr => s.size - wr.iterPos w.heap.size)
    case atStart => exact ⟨0, Nat.zero_le _, rfl, rfl, rfl, Int.le_refl _, by simp [decOf]⟩
    case round =>
      obtain ⟨k, hk, rfl, ha0, rfl, hn0, hn1⟩ := hrel
      have ha := Lib.hid ha0
      clear ha0
      by_cases hlt : k < s.size
      · have hsn := Lib.hid (dec_snoc s k hlt)
        have hov := Lib.hid (scan_over s k hlt)
        cases hd : isDig s[k]
        · have hr := rune_not s k hlt hd
          have hnx : ∀ ty, (Instr.next (.pointer (some ⟨w.heap.size, 0, none⟩)) true ty).run Tryd.prog (w.iter s k) = _ := fun ty => run_next_any w s k ty hlt
          generalize hq : Utf8.decode s k = q at hnx hr
          obtain ⟨r, wd⟩ := q
          clear hq
          go_wp2_with (go_at_call 29; refine (isDigit_any _ _).mono ?_; rintro e w' ⟨rfl, rfl⟩)
          go_quiet (fail)
          go_wp2
          go_ret2
          exact ⟨scanEnd_no (scan_bad s (digs_no s k hlt hd)), below_drewN (below_iter _ _ _) _⟩
        · obtain ⟨hdec, hr⟩ := rune_dig s k hlt hd
          have hnx : ∀ ty, (Instr.next (.pointer (some ⟨w.heap.size, 0, none⟩)) true ty).run Tryd.prog (w.iter s k) = _ := fun ty => run_next_any w s k ty hlt
          rw [hdec] at hnx
          have hb := Lib.hid (all_one s k hlt ha.out hd)
          have hg1 : (48 : Int) ≤ (s[k].toNat : Int) := by have := (isDig_iff _).1 hd; omega
          have hg2 : (s[k].toNat : Int) ≤ 57 := by have := (isDig_iff _).1 hd; omega
          clear hdec hd
          by_cases hover : (4611686018427387904 - ((s[k].toNat : Int) - 48)) / 10 < decOf (s.data.toList.take k)
          · go_wp2_with (go_at_call 29; refine (isDigit_any _ _).mono ?_; rintro e w' ⟨rfl, rfl⟩)
            go_ret2
            exact ⟨scanEnd_no (hov.out (by rw [hsn.out]; omega)), below_iter _ _ _⟩
          · go_wp2_with (go_at_call 29; refine (isDigit_any _ _).mono ?_; rintro e w' ⟨rfl, rfl⟩)
            go_roundw
            case rel => exact ⟨k + 1, by omega, rfl, hb.out, val_int hsn.out.symm, by rw [hsn.out]; omega, by rw [hsn.out]; omega⟩
            case measure => simp <;> omega
      · have hgood := Lib.hid (scan_good s k hlt h0 ha.out hn1)
        have hend := Lib.hid (congrArg decOf (take_end s k hlt))
        have hnx : ∀ ty, (Instr.next (.pointer (some ⟨w.heap.size, 0, none⟩)) true ty).run Tryd.prog (w.iter s k) = _ := fun ty => run_next_end w s k ty hlt
        go_wp2
        go_ret2
        exact ⟨scanEnd_yes hgood.out hend.out, below_iter _ _ _⟩
  · have hE := empty_yes s h0
    go_enter Tryd.func15, Tryd.ntmps15
    go_wp2
    go_quiet (fail)
    go_wp2
    go_ret2
    exact ⟨scanEnd_no (scan_bad s (digs_empty s h0)), below_drewN (Below.refl _ _) _⟩
end Go.Proofs.YtkbakcnhhlmpkaaDoor
/- TextNum: both functions return the money that a text without a leading zero denotes; the program's error variable holds an error. -/
set_option linter.unusedVariables false
namespace Go.Proofs.YtkbakcnhhlmpkaaDoor
open Go.ChangeShapes Go.WideShapes Go.ChangeAt Go.RowKit

set_option maxRecDepth 100000 in
theorem txt_bad {s : ByteArray} (h : scanOk s = false) : txtOk s = false := by simp [txtOk, h]
set_option maxRecDepth 100000 in
theorem txt_val_no {s : ByteArray} (h : txtOk s = false) : txtVal s = 0 := by simp [txtVal, h]

set_option maxRecDepth 100000 in
theorem txt_lead {s : ByteArray} (h : lead s.data.toList = true) : txtOk s = false := by simp [txtOk, h]
set_option maxRecDepth 100000 in
theorem txt_good {s : ByteArray} (h : scanOk s = true) (hl : lead s.data.toList = false) : txtOk s = true := by simp [txtOk, h, hl]

set_option maxRecDepth 100000 in
set_option maxHeartbeats 400000 in
/-- without a leading zero -/
theorem implTextNum_plain (s : ByteArray) (w : World) (hs : s.size ≤ maxLen) (p : Addr) (hg : 1 < w.heap.size) (hc : w.cell? ⟨1, 0, none⟩ = some (.iface 137 (.pointer (some p))))
    (hl : lead s.data.toList = false) (h1 : ¬ 1 < s.size ∨ ∃ h : 1 < s.size, ((s[0].toNat : Int) == 48) = false) :
    Calls Tryd.prog 7 #[.string s] w fun e w' => e = .returned (.tuple #[.int .i64 (txtVal s), .bool (txtOk s)]) ∧ Below w.heap.size w w' := by
  unfold maxLen at hs
  cases hsc : scanOk s
  · have hn := txt_bad hsc
    rw [hn, txt_val_no hn]
    clear hn
    rcases h1 with h1 | ⟨h1, h48⟩
    all_goals
      go_enter Tryd.func7, Tryd.ntmps7
      go_wp2_with fail
      refine (scan_any s _ p hg hc).mono ?_
      rintro e w1 ⟨hse, hb⟩
      unfold scanEnd at hse
      rw [if_neg (by simp [hsc])] at hse
      obtain ⟨t, v, rfl⟩ := hse
      go_wp2
      go_quiet (fail)
      go_wp2
      go_ret2
      exact ⟨rfl, below_drewN hb _⟩
  · have hn := txt_good hsc hl
    have hv : txtVal s = decOf s.data.toList := by simp [txtVal, hn]
    rw [hn, hv]
    clear hn hv
    rcases h1 with h1 | ⟨h1, h48⟩
    all_goals
      go_enter Tryd.func7, Tryd.ntmps7
      go_wp2_with fail
      refine (scan_any s _ p hg hc).mono ?_
      rintro e w1 ⟨hse, hb⟩
      unfold scanEnd at hse
      rw [if_pos hsc] at hse
      subst hse
      go_wp2
      go_quiet (fail)
      go_wp2
      go_ret2
      exact ⟨rfl, below_drewN hb _⟩

set_option maxRecDepth 100000 in
theorem implTextNum_any (s : ByteArray) (w : World) (hs : s.size ≤ maxLen) (p : Addr) (hg : 1 < w.heap.size) (hc : w.cell? ⟨1, 0, none⟩ = some (.iface 137 (.pointer (some p)))) :
    Calls Tryd.prog 7 #[.string s] w fun e w' => e = .returned (.tuple #[.int .i64 (txtVal s), .bool (txtOk s)]) ∧ Below w.heap.size w w' := by
  by_cases h1 : 1 < s.size
  · cases h0 : (s[0] == 48)
    · refine implTextNum_plain s w hs p hg hc ((lead_get h1).trans h0) (Or.inr ⟨h1, ?_⟩)
      have hne : s[0] ≠ 48 := by simpa using h0
      refine beq_eq_false_iff_ne.2 fun e => hne (UInt8.toNat_inj.1 ?_)
      show s[0].toNat = 48
      omega
    · have hn := txt_lead ((lead_get h1).trans h0)
      have h48 : (s[0].toNat : Int) = 48 := by
        have : s[0] = 48 := by simpa using h0
        rw [this]; rfl
      have H48 : ((s[0].toNat : Int) == 48) = true := by rw [h48]; rfl
      rw [hn, txt_val_no hn]
      clear hn h48 h0
      unfold maxLen at hs
      go_enter Tryd.func7, Tryd.ntmps7
      go_wp2
      go_ret2
      exact ⟨rfl, Below.refl _ _⟩
  · exact implTextNum_plain s w hs p hg hc (lead_short h1) (Or.inl h1)
end Go.Proofs.YtkbakcnhhlmpkaaDoor
/- The library's table of type handles holds what its text lays: a condition of the program's saturating sums. -/
set_option linter.unusedVariables false
namespace Go.Proofs.YtkbakcnhhlmpkaaDoor
open Go.ChangeShapes Go.WideShapes Go.ChangeAt Go.RowKit

/-- the library's handle of the type error -/
def Handle (w : World) : Prop := w.cell? ⟨2, 0, none⟩ = some (.iface RT (.agg #[.pointer (some ⟨6, ER, none⟩)]))
set_option maxRecDepth 100000 in
theorem Handle.lt {w : World} (h : Handle w) : 2 < w.heap.size := by
  unfold Handle at h
  rcases Nat.lt_or_ge 2 w.heap.size with h' | h'
  · exact h'
  · simp [World.cell?, Array.getElem?_eq_none h'] at h
set_option maxRecDepth 100000 in
theorem Handle.below {w w' : World} {B : Nat} (h : Handle w) (hb : Below B w w') (hB : w.heap.size ≤ B) : Handle w' := (hb.cell (p := ⟨_, _, none⟩) (show 2 < B by have := h.lt; omega)).trans h
set_option maxRecDepth 100000 in
theorem Handle.turned {w w' : World} {lo hi : Nat} (h : Handle w) (ht : Turned lo hi w w') (hb : 2 < lo ∨ hi ≤ 2) : Handle w' := (cell_keep (ht.block _ h.lt hb)).trans h
set_option maxRecDepth 100000 in
theorem Handle.ne {w : World} {b : Nat} {T : TypeId} {CS : List Value} {x : Int} (h : Handle w) (hb : bk w b T CS) (h0 : CS[0]? = some (.int .i64 x)) : b ≠ 2 := fun e => by
  subst e
  have h1 := hb.cell 0
  unfold Handle at h
  rw [h, h0] at h1
  cases h1
end Go.Proofs.YtkbakcnhhlmpkaaDoor
