/- The checks of an account in the program: ok, AcctOk, hasState; no conditions but the library's handle. -/
import Derived.Test.YthnimmagaocipaaGreatDoorMrg5
import Derived.Test.YthnimmagaocipaaGreatDoorMrg4
import Derived.Deep.RegionLaw
import Derived.Test.YthnimmagaocipaaGreatDoorMrg2
import Derived.Test.YthnimmagaocipaaGreatDoorMrg1
import Derived.RegionTactic
import Derived.Deep.RegionHeld3
import Derived.Deep.DeepCutAuto
import Derived.Test.YthnimmagaocipaaGreatDoorMrg3
import Derived.Shelf.Abstract
set_option linter.unusedVariables false
namespace Go.Proofs.YthnimmagaocipaaGreatDoor
open Go.ChangeShapes Go.WideShapes Go.ChangeAt Go.RowKit

set_option maxRecDepth 100000 in
theorem acctOk_amts (a : AcctD) : acctOk a = (acctIdB (aId a) && (amtsB (aLim a) (aPos a) (aMost a) (aSum a) && (holdsOk (aH a) && (ringOk (aR a) && (slotsOk (aS a) && decide (satVal (aPos a) (storedL (aH a)) ≤ aLim a)))))) := by
  unfold acctOk acctHead acctTail amtsB
  cases acctIdB (aId a) <;> cases inB (aLim a) 0 9007199254740992 <;> cases inB (aMost a) 0 1000 <;> cases inB (aSum a) 0 9007199254740992 <;> cases isMon (aPos a) <;> rfl
set_option maxRecDepth 100000 in
set_option maxHeartbeats 8000000 in
theorem implOk_any (hi : Nat) (id : ByteArray) (lim pos most sum : Int) (hs : List HoldD) (sp hd : Int) (cs ss : List Int) (sl : List SlotD) (vh vc vs vl : Value) (w : World) (hg : Handle w) (y0 : id.size ≤ maxLen) (z1 : hs.length ≤ 1048576) (y1 : ∀ x ∈ hs, x.1.size ≤ maxLen) (z2 : cs.length ≤ 1048576) (z3 : ss.length ≤ 1048576) (z4 : sl.length ≤ 1048576) (y4 : ∀ x ∈ sl, x.1.size ≤ maxLen ∧ x.2.1.size ≤ maxLen) (r1 : HoldsR.rd hi w [vh] hs) (r2 : rd .i64 hi w vc cs) (r3 : rd .i64 hi w vs ss) (r4 : SlotsR.rd hi w [vl] sl) (hh : hi ≤ w.heap.size) :
    Calls Tryz.prog 59 #[.agg #[.int .i64 lim, .int .i64 pos, .int .i64 most, .int .i64 sum, .string id, vh, .int .i64 sp, .int .i64 hd, vc, vs, vl]] w fun e w' => e = .returned (.bool (acctOk (id, lim, pos, most, sum, hs, (sp, hd, cs, ss), sl))) ∧ Below w.heap.size w w' := by
  have HE : Hid (acctOk (id, lim, pos, most, sum, hs, (sp, hd, cs, ss), sl) = (acctIdB id && (amtsB lim pos most sum && (holdsOk hs && (ringOk (sp, hd, cs, ss) && (slotsOk sl && decide (satVal pos (storedL hs) ≤ lim))))))) := Lib.hid (acctOk_amts _)
  obtain ⟨AH, cH, rfl, -⟩ := Rep.slice_form r1
  obtain ⟨AC, cC, rfl, -⟩ := r2.form
  obtain ⟨AS, cS, rfl, -⟩ := r3.form
  obtain ⟨AL, cL, rfl, -⟩ := Rep.slice_form r4
  have HQ1 := Lib.hid (fun V (hV : Below w.heap.size w V) => implAcctIdOk_any id V y0)
  have HQ2 := Lib.hid (fun V (hV : Below w.heap.size w V) => implInRange_any lim pos most sum V)
  have HQ3 := Lib.hid (fun V (hV : Below w.heap.size w V) => implHoldsOk_any hi _ hs V z1 y1 (Rep.below (R := HoldsR) r1 hV hh) (Nat.le_trans hh hV.size))
  have HQ4 := Lib.hid (fun V (hV : Below w.heap.size w V) => implRingOk_any hi _ _ (sp, hd, cs, ss) V (r2.below hV hh) (r3.below hV hh) (Nat.le_trans hh hV.size) z2 z3)
  have HQ5 := Lib.hid (fun V (hV : Below w.heap.size w V) => implSlotsOk_any hi _ sl V (by omega) y4 (Rep.below (R := SlotsR) r4 hV hh) (Nat.le_trans hh hV.size))
  have HQ6 := Lib.hid (fun V (hV : Below w.heap.size w V) => implStored_any hi _ hs V (hg.below hV (Nat.le_refl _)) z1 (Rep.below (R := HoldsR) r1 hV hh) (Nat.le_trans hh hV.size))
  have HQ7 := Lib.hid (fun V (hV : Below w.heap.size w V) => implCovers_any lim pos most sum (storedL hs) V (hg.below hV (Nat.le_refl _)))
  clear r1 r2 r3 r4 y0 y1 y4 hg
  generalize decide (satVal pos (storedL hs) ≤ lim) = t6 at HE HQ7
  generalize storedL hs = st at HQ6 HQ7
  generalize acctOk (id, lim, pos, most, sum, hs, (sp, hd, cs, ss), sl) = res at HE ⊢
  generalize acctIdB id = t1 at HE HQ1
  generalize amtsB lim pos most sum = t2 at HE HQ2
  generalize holdsOk hs = t3 at HE HQ3
  generalize ringOk (sp, hd, cs, ss) = t4 at HE HQ4
  generalize slotsOk sl = t5 at HE HQ5
  go_enter Tryz.func59, Tryz.ntmps59
  go_upto_region 1 with fail
  obtain ⟨W, hW⟩ : ∃ W, W = w.alloc (.cells #[.int .i64 lim, .int .i64 pos, .int .i64 most, .int .i64 sum, .string id, .slice AH hs.length cH, .int .i64 sp, .int .i64 hd, .slice AC cs.length cC, .slice AS ss.length cS, .slice AL sl.length cL] 88) := ⟨_, rfl⟩
  have b0 : bk W w.heap.size 88 [.int .i64 lim, .int .i64 pos, .int .i64 most, .int .i64 sum, .string id, .slice AH hs.length cH, .int .i64 sp, .int .i64 hd, .slice AC cs.length cC, .slice AS ss.length cS, .slice AL sl.length cL] := by rw [hW]; exact bk.new w _ _
  have HB0 : Hid (Below w.heap.size w W) := Lib.hid (by rw [hW]; exact (Below.refl _ _).alloc (Nat.le_refl _) _)
  rw [← hW]
  clear hW
  obtain ⟨⟨p0, p1, p2, p3, p4, p5, p6, p7, p8, p9, p10⟩, -⟩ := b0.eleven
  have z0 := b0.lt
  have P0 := Lib.hid p0
  have P1 := Lib.hid p1
  have P2 := Lib.hid p2
  have P3 := Lib.hid p3
  have P4 := Lib.hid p4
  have P5 := Lib.hid p5
  have P6 := Lib.hid p6
  have P7 := Lib.hid p7
  have P8 := Lib.hid p8
  have P9 := Lib.hid p9
  have P10 := Lib.hid p10
  clear p0 p1 p2 p3 p4 p5 p6 p7 p8 p9 p10 b0
  have HBX : Hid (∀ V, Ext W V → Below w.heap.size w V) := Lib.hid fun V hV => HB0.out.trans (hV.below.mono (by omega))
  have HX : Hid (Ext W W.drew) := Lib.hid (Ext.refl W).drew
  cases t1
  · refine quiet_region (C := Ext W) (by kernel_rfl) (by kernel_rfl) HX.out ?_
    repeat (first
      | go_big_quiet_skip
      | (go_big_quiet_want; go_big_quiet_op; go_big_quiet_on)
      | (go_big_quiet_want; go_big_quiet_op; apply Exists.intro; refine ⟨fun _ _ => rfl, ?_⟩; go_big_quiet_on)
      | (go_big_quiet_want
         apply Exists.intro
         refine ⟨fun V hV => ?_, ?_⟩
         (have q0 := hV.cell P0.out (by omega)
          have q1 := hV.cell P1.out (by omega)
          have q2 := hV.cell P2.out (by omega)
          have q3 := hV.cell P3.out (by omega)
          have q4 := hV.cell P4.out (by omega)
          have q5 := hV.cell P5.out (by omega)
          have q6 := hV.cell P6.out (by omega)
          have q7 := hV.cell P7.out (by omega)
          have q8 := hV.cell P8.out (by omega)
          have q9 := hV.cell P9.out (by omega)
          have q10 := hV.cell P10.out (by omega)
          unfold Oper.quietAt
          go_simp
          rfl)
         simp only [Act.put, List.setIfInBounds_toArray, List.set_cons_zero, List.set_cons_succ]
         go_big_quiet_on)
      | (go_big_quiet_want
         apply Exists.intro
         refine ⟨fun V hV => ?_, ?_⟩
         (unfold Oper.quietAt
          go_simp
          go_at_call 93
          (with_reducible refine (HQ1.out V (HBX.out V hV)).mono ?_)
          rintro e w4 ⟨rfl, hb4⟩
          exact ⟨rfl, hV.step hb4⟩)
         simp only [Act.put, List.setIfInBounds_toArray, List.set_cons_zero, List.set_cons_succ]
         go_big_quiet_on)
      | (go_big_quiet_want
         apply Exists.intro
         refine ⟨fun V hV => ?_, ?_⟩
         (unfold Oper.quietAt
          go_simp
          go_at_call 94
          (with_reducible refine (HQ2.out V (HBX.out V hV)).mono ?_)
          rintro e w4 ⟨rfl, hb4⟩
          exact ⟨rfl, hV.step hb4⟩)
         simp only [Act.put, List.setIfInBounds_toArray, List.set_cons_zero, List.set_cons_succ]
         go_big_quiet_on)
      | (go_big_quiet_want
         apply Exists.intro
         refine ⟨fun V hV => ?_, ?_⟩
         (unfold Oper.quietAt
          go_simp
          go_at_call 95
          (with_reducible refine (HQ3.out V (HBX.out V hV)).mono ?_)
          rintro e w4 ⟨rfl, hb4⟩
          exact ⟨rfl, hV.step hb4⟩)
         simp only [Act.put, List.setIfInBounds_toArray, List.set_cons_zero, List.set_cons_succ]
         go_big_quiet_on)
      | (go_big_quiet_want
         apply Exists.intro
         refine ⟨fun V hV => ?_, ?_⟩
         (unfold Oper.quietAt
          go_simp
          go_at_call 96
          (with_reducible refine (HQ4.out V (HBX.out V hV)).mono ?_)
          rintro e w4 ⟨rfl, hb4⟩
          exact ⟨rfl, hV.step hb4⟩)
         simp only [Act.put, List.setIfInBounds_toArray, List.set_cons_zero, List.set_cons_succ]
         go_big_quiet_on)
      | (go_big_quiet_want
         apply Exists.intro
         refine ⟨fun V hV => ?_, ?_⟩
         (unfold Oper.quietAt
          go_simp
          go_at_call 97
          (with_reducible refine (HQ5.out V (HBX.out V hV)).mono ?_)
          rintro e w4 ⟨rfl, hb4⟩
          exact ⟨rfl, hV.step hb4⟩)
         simp only [Act.put, List.setIfInBounds_toArray, List.set_cons_zero, List.set_cons_succ]
         go_big_quiet_on)
      | (go_big_quiet_want
         apply Exists.intro
         refine ⟨fun V hV => ?_, ?_⟩
         (unfold Oper.quietAt
          go_simp
          go_at_call 99
          (with_reducible refine (HQ6.out V (HBX.out V hV)).mono ?_)
          rintro e w4 ⟨rfl, hb4⟩
          exact ⟨rfl, hV.step hb4⟩)
         simp only [Act.put, List.setIfInBounds_toArray, List.set_cons_zero, List.set_cons_succ]
         go_big_quiet_on)
      | (go_big_quiet_want
         apply Exists.intro
         refine ⟨fun V hV => ?_, ?_⟩
         (unfold Oper.quietAt
          go_simp
          go_at_call 98
          (with_reducible refine (HQ7.out V (HBX.out V hV)).mono ?_)
          rintro e w4 ⟨rfl, hb4⟩
          exact ⟨rfl, hV.step hb4⟩)
         simp only [Act.put, List.setIfInBounds_toArray, List.set_cons_zero, List.set_cons_succ]
         go_big_quiet_on)
      | fail)
    refine wpQuiet_nil ?_
    intro W4 hW4
    go_wp2
    go_ret
    exact ⟨by rw [HE.out]; rfl, HBX.out W4 hW4⟩
  cases t2
  · refine quiet_region (C := Ext W) (by kernel_rfl) (by kernel_rfl) HX.out ?_
    repeat (first
      | go_big_quiet_skip
      | (go_big_quiet_want; go_big_quiet_op; go_big_quiet_on)
      | (go_big_quiet_want; go_big_quiet_op; apply Exists.intro; refine ⟨fun _ _ => rfl, ?_⟩; go_big_quiet_on)
      | (go_big_quiet_want
         apply Exists.intro
         refine ⟨fun V hV => ?_, ?_⟩
         (have q0 := hV.cell P0.out (by omega)
          have q1 := hV.cell P1.out (by omega)
          have q2 := hV.cell P2.out (by omega)
          have q3 := hV.cell P3.out (by omega)
          have q4 := hV.cell P4.out (by omega)
          have q5 := hV.cell P5.out (by omega)
          have q6 := hV.cell P6.out (by omega)
          have q7 := hV.cell P7.out (by omega)
          have q8 := hV.cell P8.out (by omega)
          have q9 := hV.cell P9.out (by omega)
          have q10 := hV.cell P10.out (by omega)
          unfold Oper.quietAt
          go_simp
          rfl)
         simp only [Act.put, List.setIfInBounds_toArray, List.set_cons_zero, List.set_cons_succ]
         go_big_quiet_on)
      | (go_big_quiet_want
         apply Exists.intro
         refine ⟨fun V hV => ?_, ?_⟩
         (unfold Oper.quietAt
          go_simp
          go_at_call 93
          (with_reducible refine (HQ1.out V (HBX.out V hV)).mono ?_)
          rintro e w4 ⟨rfl, hb4⟩
          exact ⟨rfl, hV.step hb4⟩)
         simp only [Act.put, List.setIfInBounds_toArray, List.set_cons_zero, List.set_cons_succ]
         go_big_quiet_on)
      | (go_big_quiet_want
         apply Exists.intro
         refine ⟨fun V hV => ?_, ?_⟩
         (unfold Oper.quietAt
          go_simp
          go_at_call 94
          (with_reducible refine (HQ2.out V (HBX.out V hV)).mono ?_)
          rintro e w4 ⟨rfl, hb4⟩
          exact ⟨rfl, hV.step hb4⟩)
         simp only [Act.put, List.setIfInBounds_toArray, List.set_cons_zero, List.set_cons_succ]
         go_big_quiet_on)
      | (go_big_quiet_want
         apply Exists.intro
         refine ⟨fun V hV => ?_, ?_⟩
         (unfold Oper.quietAt
          go_simp
          go_at_call 95
          (with_reducible refine (HQ3.out V (HBX.out V hV)).mono ?_)
          rintro e w4 ⟨rfl, hb4⟩
          exact ⟨rfl, hV.step hb4⟩)
         simp only [Act.put, List.setIfInBounds_toArray, List.set_cons_zero, List.set_cons_succ]
         go_big_quiet_on)
      | (go_big_quiet_want
         apply Exists.intro
         refine ⟨fun V hV => ?_, ?_⟩
         (unfold Oper.quietAt
          go_simp
          go_at_call 96
          (with_reducible refine (HQ4.out V (HBX.out V hV)).mono ?_)
          rintro e w4 ⟨rfl, hb4⟩
          exact ⟨rfl, hV.step hb4⟩)
         simp only [Act.put, List.setIfInBounds_toArray, List.set_cons_zero, List.set_cons_succ]
         go_big_quiet_on)
      | (go_big_quiet_want
         apply Exists.intro
         refine ⟨fun V hV => ?_, ?_⟩
         (unfold Oper.quietAt
          go_simp
          go_at_call 97
          (with_reducible refine (HQ5.out V (HBX.out V hV)).mono ?_)
          rintro e w4 ⟨rfl, hb4⟩
          exact ⟨rfl, hV.step hb4⟩)
         simp only [Act.put, List.setIfInBounds_toArray, List.set_cons_zero, List.set_cons_succ]
         go_big_quiet_on)
      | (go_big_quiet_want
         apply Exists.intro
         refine ⟨fun V hV => ?_, ?_⟩
         (unfold Oper.quietAt
          go_simp
          go_at_call 99
          (with_reducible refine (HQ6.out V (HBX.out V hV)).mono ?_)
          rintro e w4 ⟨rfl, hb4⟩
          exact ⟨rfl, hV.step hb4⟩)
         simp only [Act.put, List.setIfInBounds_toArray, List.set_cons_zero, List.set_cons_succ]
         go_big_quiet_on)
      | (go_big_quiet_want
         apply Exists.intro
         refine ⟨fun V hV => ?_, ?_⟩
         (unfold Oper.quietAt
          go_simp
          go_at_call 98
          (with_reducible refine (HQ7.out V (HBX.out V hV)).mono ?_)
          rintro e w4 ⟨rfl, hb4⟩
          exact ⟨rfl, hV.step hb4⟩)
         simp only [Act.put, List.setIfInBounds_toArray, List.set_cons_zero, List.set_cons_succ]
         go_big_quiet_on)
      | fail)
    refine wpQuiet_nil ?_
    intro W4 hW4
    go_wp2
    go_ret
    exact ⟨by rw [HE.out]; rfl, HBX.out W4 hW4⟩
  cases t3
  · refine quiet_region (C := Ext W) (by kernel_rfl) (by kernel_rfl) HX.out ?_
    repeat (first
      | go_big_quiet_skip
      | (go_big_quiet_want; go_big_quiet_op; go_big_quiet_on)
      | (go_big_quiet_want; go_big_quiet_op; apply Exists.intro; refine ⟨fun _ _ => rfl, ?_⟩; go_big_quiet_on)
      | (go_big_quiet_want
         apply Exists.intro
         refine ⟨fun V hV => ?_, ?_⟩
         (have q0 := hV.cell P0.out (by omega)
          have q1 := hV.cell P1.out (by omega)
          have q2 := hV.cell P2.out (by omega)
          have q3 := hV.cell P3.out (by omega)
          have q4 := hV.cell P4.out (by omega)
          have q5 := hV.cell P5.out (by omega)
          have q6 := hV.cell P6.out (by omega)
          have q7 := hV.cell P7.out (by omega)
          have q8 := hV.cell P8.out (by omega)
          have q9 := hV.cell P9.out (by omega)
          have q10 := hV.cell P10.out (by omega)
          unfold Oper.quietAt
          go_simp
          rfl)
         simp only [Act.put, List.setIfInBounds_toArray, List.set_cons_zero, List.set_cons_succ]
         go_big_quiet_on)
      | (go_big_quiet_want
         apply Exists.intro
         refine ⟨fun V hV => ?_, ?_⟩
         (unfold Oper.quietAt
          go_simp
          go_at_call 93
          (with_reducible refine (HQ1.out V (HBX.out V hV)).mono ?_)
          rintro e w4 ⟨rfl, hb4⟩
          exact ⟨rfl, hV.step hb4⟩)
         simp only [Act.put, List.setIfInBounds_toArray, List.set_cons_zero, List.set_cons_succ]
         go_big_quiet_on)
      | (go_big_quiet_want
         apply Exists.intro
         refine ⟨fun V hV => ?_, ?_⟩
         (unfold Oper.quietAt
          go_simp
          go_at_call 94
          (with_reducible refine (HQ2.out V (HBX.out V hV)).mono ?_)
          rintro e w4 ⟨rfl, hb4⟩
          exact ⟨rfl, hV.step hb4⟩)
         simp only [Act.put, List.setIfInBounds_toArray, List.set_cons_zero, List.set_cons_succ]
         go_big_quiet_on)
      | (go_big_quiet_want
         apply Exists.intro
         refine ⟨fun V hV => ?_, ?_⟩
         (unfold Oper.quietAt
          go_simp
          go_at_call 95
          (with_reducible refine (HQ3.out V (HBX.out V hV)).mono ?_)
          rintro e w4 ⟨rfl, hb4⟩
          exact ⟨rfl, hV.step hb4⟩)
         simp only [Act.put, List.setIfInBounds_toArray, List.set_cons_zero, List.set_cons_succ]
         go_big_quiet_on)
      | (go_big_quiet_want
         apply Exists.intro
         refine ⟨fun V hV => ?_, ?_⟩
         (unfold Oper.quietAt
          go_simp
          go_at_call 96
          (with_reducible refine (HQ4.out V (HBX.out V hV)).mono ?_)
          rintro e w4 ⟨rfl, hb4⟩
          exact ⟨rfl, hV.step hb4⟩)
         simp only [Act.put, List.setIfInBounds_toArray, List.set_cons_zero, List.set_cons_succ]
         go_big_quiet_on)
      | (go_big_quiet_want
         apply Exists.intro
         refine ⟨fun V hV => ?_, ?_⟩
         (unfold Oper.quietAt
          go_simp
          go_at_call 97
          (with_reducible refine (HQ5.out V (HBX.out V hV)).mono ?_)
          rintro e w4 ⟨rfl, hb4⟩
          exact ⟨rfl, hV.step hb4⟩)
         simp only [Act.put, List.setIfInBounds_toArray, List.set_cons_zero, List.set_cons_succ]
         go_big_quiet_on)
      | (go_big_quiet_want
         apply Exists.intro
         refine ⟨fun V hV => ?_, ?_⟩
         (unfold Oper.quietAt
          go_simp
          go_at_call 99
          (with_reducible refine (HQ6.out V (HBX.out V hV)).mono ?_)
          rintro e w4 ⟨rfl, hb4⟩
          exact ⟨rfl, hV.step hb4⟩)
         simp only [Act.put, List.setIfInBounds_toArray, List.set_cons_zero, List.set_cons_succ]
         go_big_quiet_on)
      | (go_big_quiet_want
         apply Exists.intro
         refine ⟨fun V hV => ?_, ?_⟩
         (unfold Oper.quietAt
          go_simp
          go_at_call 98
          (with_reducible refine (HQ7.out V (HBX.out V hV)).mono ?_)
          rintro e w4 ⟨rfl, hb4⟩
          exact ⟨rfl, hV.step hb4⟩)
         simp only [Act.put, List.setIfInBounds_toArray, List.set_cons_zero, List.set_cons_succ]
         go_big_quiet_on)
      | fail)
    refine wpQuiet_nil ?_
    intro W4 hW4
    go_wp2
    go_ret
    exact ⟨by rw [HE.out]; rfl, HBX.out W4 hW4⟩
  cases t4
  · refine quiet_region (C := Ext W) (by kernel_rfl) (by kernel_rfl) HX.out ?_
    repeat (first
      | go_big_quiet_skip
      | (go_big_quiet_want; go_big_quiet_op; go_big_quiet_on)
      | (go_big_quiet_want; go_big_quiet_op; apply Exists.intro; refine ⟨fun _ _ => rfl, ?_⟩; go_big_quiet_on)
      | (go_big_quiet_want
         apply Exists.intro
         refine ⟨fun V hV => ?_, ?_⟩
         (have q0 := hV.cell P0.out (by omega)
          have q1 := hV.cell P1.out (by omega)
          have q2 := hV.cell P2.out (by omega)
          have q3 := hV.cell P3.out (by omega)
          have q4 := hV.cell P4.out (by omega)
          have q5 := hV.cell P5.out (by omega)
          have q6 := hV.cell P6.out (by omega)
          have q7 := hV.cell P7.out (by omega)
          have q8 := hV.cell P8.out (by omega)
          have q9 := hV.cell P9.out (by omega)
          have q10 := hV.cell P10.out (by omega)
          unfold Oper.quietAt
          go_simp
          rfl)
         simp only [Act.put, List.setIfInBounds_toArray, List.set_cons_zero, List.set_cons_succ]
         go_big_quiet_on)
      | (go_big_quiet_want
         apply Exists.intro
         refine ⟨fun V hV => ?_, ?_⟩
         (unfold Oper.quietAt
          go_simp
          go_at_call 93
          (with_reducible refine (HQ1.out V (HBX.out V hV)).mono ?_)
          rintro e w4 ⟨rfl, hb4⟩
          exact ⟨rfl, hV.step hb4⟩)
         simp only [Act.put, List.setIfInBounds_toArray, List.set_cons_zero, List.set_cons_succ]
         go_big_quiet_on)
      | (go_big_quiet_want
         apply Exists.intro
         refine ⟨fun V hV => ?_, ?_⟩
         (unfold Oper.quietAt
          go_simp
          go_at_call 94
          (with_reducible refine (HQ2.out V (HBX.out V hV)).mono ?_)
          rintro e w4 ⟨rfl, hb4⟩
          exact ⟨rfl, hV.step hb4⟩)
         simp only [Act.put, List.setIfInBounds_toArray, List.set_cons_zero, List.set_cons_succ]
         go_big_quiet_on)
      | (go_big_quiet_want
         apply Exists.intro
         refine ⟨fun V hV => ?_, ?_⟩
         (unfold Oper.quietAt
          go_simp
          go_at_call 95
          (with_reducible refine (HQ3.out V (HBX.out V hV)).mono ?_)
          rintro e w4 ⟨rfl, hb4⟩
          exact ⟨rfl, hV.step hb4⟩)
         simp only [Act.put, List.setIfInBounds_toArray, List.set_cons_zero, List.set_cons_succ]
         go_big_quiet_on)
      | (go_big_quiet_want
         apply Exists.intro
         refine ⟨fun V hV => ?_, ?_⟩
         (unfold Oper.quietAt
          go_simp
          go_at_call 96
          (with_reducible refine (HQ4.out V (HBX.out V hV)).mono ?_)
          rintro e w4 ⟨rfl, hb4⟩
          exact ⟨rfl, hV.step hb4⟩)
         simp only [Act.put, List.setIfInBounds_toArray, List.set_cons_zero, List.set_cons_succ]
         go_big_quiet_on)
      | (go_big_quiet_want
         apply Exists.intro
         refine ⟨fun V hV => ?_, ?_⟩
         (unfold Oper.quietAt
          go_simp
          go_at_call 97
          (with_reducible refine (HQ5.out V (HBX.out V hV)).mono ?_)
          rintro e w4 ⟨rfl, hb4⟩
          exact ⟨rfl, hV.step hb4⟩)
         simp only [Act.put, List.setIfInBounds_toArray, List.set_cons_zero, List.set_cons_succ]
         go_big_quiet_on)
      | (go_big_quiet_want
         apply Exists.intro
         refine ⟨fun V hV => ?_, ?_⟩
         (unfold Oper.quietAt
          go_simp
          go_at_call 99
          (with_reducible refine (HQ6.out V (HBX.out V hV)).mono ?_)
          rintro e w4 ⟨rfl, hb4⟩
          exact ⟨rfl, hV.step hb4⟩)
         simp only [Act.put, List.setIfInBounds_toArray, List.set_cons_zero, List.set_cons_succ]
         go_big_quiet_on)
      | (go_big_quiet_want
         apply Exists.intro
         refine ⟨fun V hV => ?_, ?_⟩
         (unfold Oper.quietAt
          go_simp
          go_at_call 98
          (with_reducible refine (HQ7.out V (HBX.out V hV)).mono ?_)
          rintro e w4 ⟨rfl, hb4⟩
          exact ⟨rfl, hV.step hb4⟩)
         simp only [Act.put, List.setIfInBounds_toArray, List.set_cons_zero, List.set_cons_succ]
         go_big_quiet_on)
      | fail)
    refine wpQuiet_nil ?_
    intro W4 hW4
    go_wp2
    go_ret
    exact ⟨by rw [HE.out]; rfl, HBX.out W4 hW4⟩
  cases t5
  · refine quiet_region (C := Ext W) (by kernel_rfl) (by kernel_rfl) HX.out ?_
    repeat (first
      | go_big_quiet_skip
      | (go_big_quiet_want; go_big_quiet_op; go_big_quiet_on)
      | (go_big_quiet_want; go_big_quiet_op; apply Exists.intro; refine ⟨fun _ _ => rfl, ?_⟩; go_big_quiet_on)
      | (go_big_quiet_want
         apply Exists.intro
         refine ⟨fun V hV => ?_, ?_⟩
         (have q0 := hV.cell P0.out (by omega)
          have q1 := hV.cell P1.out (by omega)
          have q2 := hV.cell P2.out (by omega)
          have q3 := hV.cell P3.out (by omega)
          have q4 := hV.cell P4.out (by omega)
          have q5 := hV.cell P5.out (by omega)
          have q6 := hV.cell P6.out (by omega)
          have q7 := hV.cell P7.out (by omega)
          have q8 := hV.cell P8.out (by omega)
          have q9 := hV.cell P9.out (by omega)
          have q10 := hV.cell P10.out (by omega)
          unfold Oper.quietAt
          go_simp
          rfl)
         simp only [Act.put, List.setIfInBounds_toArray, List.set_cons_zero, List.set_cons_succ]
         go_big_quiet_on)
      | (go_big_quiet_want
         apply Exists.intro
         refine ⟨fun V hV => ?_, ?_⟩
         (unfold Oper.quietAt
          go_simp
          go_at_call 93
          (with_reducible refine (HQ1.out V (HBX.out V hV)).mono ?_)
          rintro e w4 ⟨rfl, hb4⟩
          exact ⟨rfl, hV.step hb4⟩)
         simp only [Act.put, List.setIfInBounds_toArray, List.set_cons_zero, List.set_cons_succ]
         go_big_quiet_on)
      | (go_big_quiet_want
         apply Exists.intro
         refine ⟨fun V hV => ?_, ?_⟩
         (unfold Oper.quietAt
          go_simp
          go_at_call 94
          (with_reducible refine (HQ2.out V (HBX.out V hV)).mono ?_)
          rintro e w4 ⟨rfl, hb4⟩
          exact ⟨rfl, hV.step hb4⟩)
         simp only [Act.put, List.setIfInBounds_toArray, List.set_cons_zero, List.set_cons_succ]
         go_big_quiet_on)
      | (go_big_quiet_want
         apply Exists.intro
         refine ⟨fun V hV => ?_, ?_⟩
         (unfold Oper.quietAt
          go_simp
          go_at_call 95
          (with_reducible refine (HQ3.out V (HBX.out V hV)).mono ?_)
          rintro e w4 ⟨rfl, hb4⟩
          exact ⟨rfl, hV.step hb4⟩)
         simp only [Act.put, List.setIfInBounds_toArray, List.set_cons_zero, List.set_cons_succ]
         go_big_quiet_on)
      | (go_big_quiet_want
         apply Exists.intro
         refine ⟨fun V hV => ?_, ?_⟩
         (unfold Oper.quietAt
          go_simp
          go_at_call 96
          (with_reducible refine (HQ4.out V (HBX.out V hV)).mono ?_)
          rintro e w4 ⟨rfl, hb4⟩
          exact ⟨rfl, hV.step hb4⟩)
         simp only [Act.put, List.setIfInBounds_toArray, List.set_cons_zero, List.set_cons_succ]
         go_big_quiet_on)
      | (go_big_quiet_want
         apply Exists.intro
         refine ⟨fun V hV => ?_, ?_⟩
         (unfold Oper.quietAt
          go_simp
          go_at_call 97
          (with_reducible refine (HQ5.out V (HBX.out V hV)).mono ?_)
          rintro e w4 ⟨rfl, hb4⟩
          exact ⟨rfl, hV.step hb4⟩)
         simp only [Act.put, List.setIfInBounds_toArray, List.set_cons_zero, List.set_cons_succ]
         go_big_quiet_on)
      | (go_big_quiet_want
         apply Exists.intro
         refine ⟨fun V hV => ?_, ?_⟩
         (unfold Oper.quietAt
          go_simp
          go_at_call 99
          (with_reducible refine (HQ6.out V (HBX.out V hV)).mono ?_)
          rintro e w4 ⟨rfl, hb4⟩
          exact ⟨rfl, hV.step hb4⟩)
         simp only [Act.put, List.setIfInBounds_toArray, List.set_cons_zero, List.set_cons_succ]
         go_big_quiet_on)
      | (go_big_quiet_want
         apply Exists.intro
         refine ⟨fun V hV => ?_, ?_⟩
         (unfold Oper.quietAt
          go_simp
          go_at_call 98
          (with_reducible refine (HQ7.out V (HBX.out V hV)).mono ?_)
          rintro e w4 ⟨rfl, hb4⟩
          exact ⟨rfl, hV.step hb4⟩)
         simp only [Act.put, List.setIfInBounds_toArray, List.set_cons_zero, List.set_cons_succ]
         go_big_quiet_on)
      | fail)
    refine wpQuiet_nil ?_
    intro W4 hW4
    go_wp2
    go_ret
    exact ⟨by rw [HE.out]; rfl, HBX.out W4 hW4⟩
  · refine quiet_region (C := Ext W) (by kernel_rfl) (by kernel_rfl) HX.out ?_
    repeat (first
      | go_big_quiet_skip
      | (go_big_quiet_want; go_big_quiet_op; go_big_quiet_on)
      | (go_big_quiet_want; go_big_quiet_op; apply Exists.intro; refine ⟨fun _ _ => rfl, ?_⟩; go_big_quiet_on)
      | (go_big_quiet_want
         apply Exists.intro
         refine ⟨fun V hV => ?_, ?_⟩
         (have q0 := hV.cell P0.out (by omega)
          have q1 := hV.cell P1.out (by omega)
          have q2 := hV.cell P2.out (by omega)
          have q3 := hV.cell P3.out (by omega)
          have q4 := hV.cell P4.out (by omega)
          have q5 := hV.cell P5.out (by omega)
          have q6 := hV.cell P6.out (by omega)
          have q7 := hV.cell P7.out (by omega)
          have q8 := hV.cell P8.out (by omega)
          have q9 := hV.cell P9.out (by omega)
          have q10 := hV.cell P10.out (by omega)
          unfold Oper.quietAt
          go_simp
          rfl)
         simp only [Act.put, List.setIfInBounds_toArray, List.set_cons_zero, List.set_cons_succ]
         go_big_quiet_on)
      | (go_big_quiet_want
         apply Exists.intro
         refine ⟨fun V hV => ?_, ?_⟩
         (unfold Oper.quietAt
          go_simp
          go_at_call 93
          (with_reducible refine (HQ1.out V (HBX.out V hV)).mono ?_)
          rintro e w4 ⟨rfl, hb4⟩
          exact ⟨rfl, hV.step hb4⟩)
         simp only [Act.put, List.setIfInBounds_toArray, List.set_cons_zero, List.set_cons_succ]
         go_big_quiet_on)
      | (go_big_quiet_want
         apply Exists.intro
         refine ⟨fun V hV => ?_, ?_⟩
         (unfold Oper.quietAt
          go_simp
          go_at_call 94
          (with_reducible refine (HQ2.out V (HBX.out V hV)).mono ?_)
          rintro e w4 ⟨rfl, hb4⟩
          exact ⟨rfl, hV.step hb4⟩)
         simp only [Act.put, List.setIfInBounds_toArray, List.set_cons_zero, List.set_cons_succ]
         go_big_quiet_on)
      | (go_big_quiet_want
         apply Exists.intro
         refine ⟨fun V hV => ?_, ?_⟩
         (unfold Oper.quietAt
          go_simp
          go_at_call 95
          (with_reducible refine (HQ3.out V (HBX.out V hV)).mono ?_)
          rintro e w4 ⟨rfl, hb4⟩
          exact ⟨rfl, hV.step hb4⟩)
         simp only [Act.put, List.setIfInBounds_toArray, List.set_cons_zero, List.set_cons_succ]
         go_big_quiet_on)
      | (go_big_quiet_want
         apply Exists.intro
         refine ⟨fun V hV => ?_, ?_⟩
         (unfold Oper.quietAt
          go_simp
          go_at_call 96
          (with_reducible refine (HQ4.out V (HBX.out V hV)).mono ?_)
          rintro e w4 ⟨rfl, hb4⟩
          exact ⟨rfl, hV.step hb4⟩)
         simp only [Act.put, List.setIfInBounds_toArray, List.set_cons_zero, List.set_cons_succ]
         go_big_quiet_on)
      | (go_big_quiet_want
         apply Exists.intro
         refine ⟨fun V hV => ?_, ?_⟩
         (unfold Oper.quietAt
          go_simp
          go_at_call 97
          (with_reducible refine (HQ5.out V (HBX.out V hV)).mono ?_)
          rintro e w4 ⟨rfl, hb4⟩
          exact ⟨rfl, hV.step hb4⟩)
         simp only [Act.put, List.setIfInBounds_toArray, List.set_cons_zero, List.set_cons_succ]
         go_big_quiet_on)
      | (go_big_quiet_want
         apply Exists.intro
         refine ⟨fun V hV => ?_, ?_⟩
         (unfold Oper.quietAt
          go_simp
          go_at_call 99
          (with_reducible refine (HQ6.out V (HBX.out V hV)).mono ?_)
          rintro e w4 ⟨rfl, hb4⟩
          exact ⟨rfl, hV.step hb4⟩)
         simp only [Act.put, List.setIfInBounds_toArray, List.set_cons_zero, List.set_cons_succ]
         go_big_quiet_on)
      | (go_big_quiet_want
         apply Exists.intro
         refine ⟨fun V hV => ?_, ?_⟩
         (unfold Oper.quietAt
          go_simp
          go_at_call 98
          (with_reducible refine (HQ7.out V (HBX.out V hV)).mono ?_)
          rintro e w4 ⟨rfl, hb4⟩
          exact ⟨rfl, hV.step hb4⟩)
         simp only [Act.put, List.setIfInBounds_toArray, List.set_cons_zero, List.set_cons_succ]
         go_big_quiet_on)
      | fail)
    refine wpQuiet_nil ?_
    intro W4 hW4
    go_wp2
    go_ret
    exact ⟨by rw [HE.out]; rfl, HBX.out W4 hW4⟩
set_option maxRecDepth 100000 in
set_option maxHeartbeats 1600000 in
theorem implAcctOk_any (hi : Nat) (vh vc vs vl : Value) (a : AcctD) (w : World) (hg : Handle w) (hz : acctSmall 1048576 a) (hbig : acctBig a) (h : AcctR.rd hi w (aCells a vh vc vs vl) a) (hh : hi ≤ w.heap.size) :
    Calls Tryz.prog 24 #[.agg #[.string (aId a), .int .i64 (aLim a), .int .i64 (aPos a), .int .i64 (aMost a), .int .i64 (aSum a), vh, .int .i64 (aR a).1, .int .i64 (aR a).2.1, vc, vs, vl]] w fun e w' => e = .returned (.bool (acctOk a)) ∧ Below w.heap.size w w' := by
  obtain ⟨vh0, vc0, vs0, vl0, hcs, r1, r2, r3, r4⟩ := acct_rd h
  simp only [aCells, List.cons.injEq, and_true, true_and] at hcs
  obtain ⟨rfl, rfl, rfl, rfl⟩ := hcs
  clear h
  obtain ⟨z1, z2, z3, z4, z5⟩ := hz
  obtain ⟨y0, y1, y1', y2, y3, y4, y5⟩ := hbig
  obtain ⟨id, lim, pos, most, sum, hs, ⟨sp, hd, cs, ss⟩, sl⟩ := a
  simp only [aId, aLim, aPos, aMost, aSum, aH, aS] at r1 r2 r3 r4 z1 z2 z3 z4 z5 y0 y1 y1' y2 y3 y4 y5 ⊢
  have HQ := Lib.hid (fun V (hV : Below w.heap.size w V) => implOk_any hi id lim pos most sum hs sp hd cs ss sl vh vc vs vl V (hg.below hV (Nat.le_refl _)) y0 z1 y1' z2 z3 z4 (fun x hx => ⟨(y5 x hx).1, (y5 x hx).2.1⟩) (Rep.below (R := HoldsR) r1 hV hh) (r2.below hV hh) (r3.below hV hh) (Rep.below (R := SlotsR) r4 hV hh) (Nat.le_trans hh hV.size))
  obtain ⟨AH, cH, rfl, -⟩ := Rep.slice_form r1
  obtain ⟨AC, cC, rfl, -⟩ := r2.form
  obtain ⟨AS, cS, rfl, -⟩ := r3.form
  obtain ⟨AL, cL, rfl, -⟩ := Rep.slice_form r4
  have HAO := Lib.hid (fun V => implAccountOf_any id lim pos most sum AH hs.length cH sp hd AC cs.length cC AS ss.length cS AL sl.length cL V)
  clear r1 r2 r3 r4 z5 y0 y1 y1' y2 y3 y4 y5 hg
  generalize acctOk (id, lim, pos, most, sum, hs, (sp, hd, cs, ss), sl) = res at HQ ⊢
  go_enter Tryz.func24, Tryz.ntmps24
  go_upto_region 1 with fail
  obtain ⟨W, hW⟩ : ∃ W, W = w.alloc (.cells #[.string id, .int .i64 lim, .int .i64 pos, .int .i64 most, .int .i64 sum, .slice AH hs.length cH, .int .i64 sp, .int .i64 hd, .slice AC cs.length cC, .slice AS ss.length cS, .slice AL sl.length cL] 50) := ⟨_, rfl⟩
  have b0 : bk W w.heap.size 50 [.string id, .int .i64 lim, .int .i64 pos, .int .i64 most, .int .i64 sum, .slice AH hs.length cH, .int .i64 sp, .int .i64 hd, .slice AC cs.length cC, .slice AS ss.length cS, .slice AL sl.length cL] := by rw [hW]; exact bk.new w _ _
  have HB0 : Hid (Below w.heap.size w W) := Lib.hid (by rw [hW]; exact (Below.refl _ _).alloc (Nat.le_refl _) _)
  rw [← hW]
  clear hW
  obtain ⟨⟨p0, p1, p2, p3, p4, p5, p6, p7, p8, p9, p10⟩, -⟩ := b0.eleven
  have z0 := b0.lt
  clear b0
  go_wp2_with fail
  refine (HAO.out W).mono ?_
  rintro e w1 ⟨rfl, hb1⟩
  have HB1 : Hid (Below w.heap.size w w1) := Lib.hid (HB0.out.trans (hb1.mono (by omega)))
  have x1 := hb1.size
  clear hb1 p0 p1 p2 p3 p4 p5 p6 p7 p8 p9 p10
  go_wp2_with fail
  refine (HQ.out w1 HB1.out).mono ?_
  rintro e w2 ⟨rfl, hb2⟩
  have HB2 : Hid (Below w.heap.size w w2) := Lib.hid (HB1.out.trans (hb2.mono (by omega)))
  clear hb2
  go_wp2
  go_ret
  exact ⟨rfl, HB2.out⟩
set_option maxRecDepth 100000 in
set_option maxHeartbeats 1600000 in
theorem implHasState_any (hi : Nat) (vh vc vs vl : Value) (a : AcctD) (now : Int) (w : World) (hg : Handle w) (hz : acctSmall 1048576 a) (hbig : acctBig a) (h : AcctR.rd hi w (aCells a vh vc vs vl) a) (hh : hi ≤ w.heap.size) :
    Calls Tryz.prog 64 #[.agg #[.string (aId a), .int .i64 (aLim a), .int .i64 (aPos a), .int .i64 (aMost a), .int .i64 (aSum a), vh, .int .i64 (aR a).1, .int .i64 (aR a).2.1, vc, vs, vl], .int .i64 now] w fun e w' => e = .returned (.bool (acctOk a && timeB now)) ∧ Below w.heap.size w w' := by
  have HOK := Lib.hid (fun V (hV : Below w.heap.size w V) => implAcctOk_any hi vh vc vs vl a V (hg.below hV (Nat.le_refl _)) hz hbig (Rep.below (R := AcctR) h hV hh) (Nat.le_trans hh hV.size))
  have HTM := Lib.hid (fun V => implTime_any now V)
  obtain ⟨vh0, vc0, vs0, vl0, hcs, r1, r2, r3, r4⟩ := acct_rd h
  simp only [aCells, List.cons.injEq, and_true, true_and] at hcs
  obtain ⟨rfl, rfl, rfl, rfl⟩ := hcs
  clear h
  obtain ⟨id, lim, pos, most, sum, hs, ⟨sp, hd, cs, ss⟩, sl⟩ := a
  simp only [aId, aLim, aPos, aMost, aSum, aH, aS] at r1 r2 r3 r4 HOK ⊢
  obtain ⟨AH, cH, rfl, -⟩ := Rep.slice_form r1
  obtain ⟨AC, cC, rfl, -⟩ := r2.form
  obtain ⟨AS, cS, rfl, -⟩ := r3.form
  obtain ⟨AL, cL, rfl, -⟩ := Rep.slice_form r4
  clear r1 r2 r3 r4 hg hz hbig
  generalize acctOk (id, lim, pos, most, sum, hs, (sp, hd, cs, ss), sl) = ok at HOK ⊢
  generalize timeB now = tm at HTM ⊢
  go_enter Tryz.func64, Tryz.ntmps64
  go_upto_region 1 with fail
  obtain ⟨W, hW⟩ : ∃ W, W = w.alloc (.cells #[.string id, .int .i64 lim, .int .i64 pos, .int .i64 most, .int .i64 sum, .slice AH hs.length cH, .int .i64 sp, .int .i64 hd, .slice AC cs.length cC, .slice AS ss.length cS, .slice AL sl.length cL] 50) := ⟨_, rfl⟩
  have b0 : bk W w.heap.size 50 [.string id, .int .i64 lim, .int .i64 pos, .int .i64 most, .int .i64 sum, .slice AH hs.length cH, .int .i64 sp, .int .i64 hd, .slice AC cs.length cC, .slice AS ss.length cS, .slice AL sl.length cL] := by rw [hW]; exact bk.new w _ _
  have HB0 : Hid (Below w.heap.size w W) := Lib.hid (by rw [hW]; exact (Below.refl _ _).alloc (Nat.le_refl _) _)
  rw [← hW]
  clear hW
  obtain ⟨⟨p0, p1, p2, p3, p4, p5, p6, p7, p8, p9, p10⟩, -⟩ := b0.eleven
  have z0 := b0.lt
  clear b0
  go_wp2_with fail
  refine (HOK.out W HB0.out).mono ?_
  rintro e w1 ⟨rfl, hb1⟩
  have HB1 : Hid (Below w.heap.size w w1) := Lib.hid (HB0.out.trans (hb1.mono (by omega)))
  clear hb1 p0 p1 p2 p3 p4 p5 p6 p7 p8 p9 p10
  cases ok
  · go_wp2
    go_ret
    exact ⟨rfl, HB1.out⟩
  go_wp2_with fail
  refine (HTM.out _).mono ?_
  rintro e w2 ⟨rfl, rfl⟩
  go_wp2
  go_ret
  exact ⟨rfl, HB1.out⟩
end Go.Proofs.YthnimmagaocipaaGreatDoor
set_option linter.unusedVariables false
namespace Go.Proofs.YthnimmagaocipaaGreatDoor
open Go.ChangeShapes Go.WideShapes Go.ChangeAt Go.RowKit

abbrev TD := Int × Int
def tCells (x : TD) : List Value := [.int .i64 x.1, .int .i64 x.2]
set_option maxRecDepth 100000 in
theorem tCells_len (x : TD) : (tCells x).length = 2 := rfl
set_option maxRecDepth 100000 in
theorem tCells_one (x : TD) : ∀ u ∈ tCells x, u.oneCell' = true := by
  intro u hu
  simp only [tCells, List.mem_cons, List.not_mem_nil, or_false] at hu
  rcases hu with rfl | rfl <;> rfl
set_option maxRecDepth 100000 in
theorem infoTally : (Tryz.prog.info? 139).map (fun i => (i.zero.map (·.cells), i.size, i.bytes)) = some (some #[.int .i64 0, .int .i64 0], 2, 16) := by kernel_rfl
set_option maxRecDepth 100000 in
theorem infoTally2 : (Tryz.prog.info? 139).map (fun i => (i.zero.map (·.cells), i.size)) = some (some #[.int .i64 0, .int .i64 0], 2) := by kernel_rfl
set_option maxRecDepth 100000 in
theorem sizeTally : (Tryz.prog.info? 139).map (·.size) = some 2 := by kernel_rfl
/-- a window at block p: its span, its head, its buckets, a row of its own -/
structure Win (B : Nat) (w : World) (p : Nat) (sp hd : Int) (v : Value) (l : List TD) : Prop where
  at_ : bk w p 137 [.int .i64 sp, .int .i64 hd, v]
  row : owE 139 2 tCells B w v l
  low : B ≤ p
  far : v.ownBlock ≠ some p
def rollT (k : Nat) (l : List TD) : List TD := List.replicate k (0, 0) ++ l.take (l.length - k)
def winHead (sp hd now : Int) : Int := if hd < now / sp then now / sp else hd
def winRoll (sp hd now : Int) (l : List TD) : List TD := if hd < now / sp then rollT (min (now / sp - hd).toNat l.length) l else l
set_option maxRecDepth 100000 in
theorem rollT_len {k : Nat} {l : List TD} (h : k ≤ l.length) : (rollT k l).length = l.length := by
  unfold rollT
  rw [List.length_append, List.length_replicate, List.length_take]; omega
set_option maxRecDepth 100000 in
theorem winRoll_len (sp hd now : Int) (l : List TD) : (winRoll sp hd now l).length = l.length := by
  unfold winRoll
  split
  · exact rollT_len (Nat.min_le_right _ _)
  · rfl
set_option maxRecDepth 100000 in
theorem bk.three {w : World} {g : Nat} {t : TypeId} {a b c : Value} (h : bk w g t [a, b, c]) : (w.cell? ⟨g, 0, none⟩ = some a ∧ w.cell? ⟨g, 1, none⟩ = some b ∧ w.cell? ⟨g, 2, none⟩ = some c) ∧ (w.frozen? ⟨g, 0, none⟩ = false ∧ w.frozen? ⟨g, 1, none⟩ = false ∧ w.frozen? ⟨g, 2, none⟩ = false) :=
  ⟨⟨h.cell 0, h.cell 1, h.cell 2⟩, h.frozen 0, h.frozen 1, h.frozen 2⟩
set_option maxRecDepth 100000 in
theorem owE.turned {α : Type} {T : TypeId} {k B lo hi : Nat} {enc : α → List Value} {w w' : World} {v : Value} {l : List α} (h : owE T k enc B w v l) (ht : Turned lo hi w w') (hv : ∀ g, v.ownBlock = some g → g < lo ∨ hi ≤ g) : owE T k enc B w' v l :=
  h.keep fun g hg => ht.block g (h.lt g hg).2 (by have := hv g hg; omega)

set_option maxRecDepth 100000 in
set_option maxHeartbeats 4000000 in
theorem implRoll_any (B p : Nat) (sp hd now : Int) (v : Value) (l : List TD) (w : World) (hw : Win B w p sp hd v l) (s1 : 1 ≤ sp) (n0 : 0 ≤ now) (n1 : now ≤ 1000000000) (d0 : 0 ≤ hd) (d1 : hd ≤ 1000000000) (l1 : 1 ≤ l.length) (l2 : l.length ≤ 8) :
    Calls Tryz.prog 131 #[.pointer (some ⟨p, 0, none⟩), .int .i64 now] w fun e w' => e = .returned (.tuple #[]) ∧ Win B w' p sp (winHead sp hd now) v (winRoll sp hd now l) ∧ Below B w w' := by
  obtain ⟨b0, ho, hlow, hfar⟩ := hw
  obtain ⟨A, c, rfl, hlc⟩ := ho.form
  obtain ⟨-, n5, n6⟩ := quo_ok n0 n1 s1
  have n2 : (sp == 0) = false := by simp; omega
  have n3 : ¬ sp = 0 := by omega
  obtain ⟨g, rfl, hBg, hgl⟩ : ∃ g, A = some ⟨g, 0, none⟩ ∧ B ≤ g ∧ g < w.heap.size := by
    rcases ho.2 with ⟨h', h0⟩ | ⟨g, cap, cur, h', hB, hg, -⟩
    · omega
    · simp only [Value.slice.injEq] at h'
      exact ⟨g, h'.1, hB, (Array.getElem?_eq_some_iff.1 hg).1⟩
  have hgp : p ≠ g := fun e => hfar (by rw [e]; rfl)
  have HO := Lib.hid ho
  have B0 := Lib.hid b0
  obtain ⟨⟨p0, p1, p2⟩, f0, f1, f2⟩ := b0.three
  have y0 := b0.lt
  clear ho b0 hfar
  by_cases hgo : hd < now / sp
  · have g1 : ¬ now / sp ≤ hd := by omega
    have HH : Hid (winHead sp hd now = now / sp) := Lib.hid (if_pos hgo)
    have HW : Hid (winRoll sp hd now l = rollT (min (now / sp - hd).toNat l.length) l) := Lib.hid (if_pos hgo)
    obtain ⟨q, hq⟩ := Int.eq_ofNat_of_zero_le n5
    obtain ⟨m, hm⟩ : ∃ m : Nat, m = min (now / sp - hd).toNat l.length := ⟨_, rfl⟩
    have m0 : 0 < m := by omega
    have m1 : m ≤ l.length := by omega
    rw [← hm] at HW
    have HM := Lib.hid hm
    clear hm hq
    go_enter Tryz.func131, Tryz.ntmps131
    go_upto_region 2 with fail
    go_cut [5] (fun cv wx => cv = .int .i64 (m : Int) ∧ ∃ n, wx = w.drewN n)
    case first =>
      go_quiet (fail)
      go_wp2
      all_goals go_meet
      all_goals exact ⟨congrArg (Value.int .i64) (by have := HM.out; omega), nq, rfl⟩
    case rest =>
      obtain ⟨rfl, nz, rfl⟩ := hcut
      obtain ⟨W, hW⟩ : ∃ W, W = w.drewN nz := ⟨_, rfl⟩
      have b0 := B0.out.drewN nz
      have ho : owE 139 2 tCells B (w.drewN nz) (.slice (some ⟨g, 0, none⟩) l.length c) l := HO.out
      have hb0 : Below B w (w.drewN nz) := below_drew' (Below.refl B w) nz
      have zs : w.heap.size = (w.drewN nz).heap.size := rfl
      rw [← hW] at b0 ho hb0 zs ⊢
      have HB0 := Lib.hid hb0
      have BB := Lib.hid b0
      have HO1 := Lib.hid ho
      clear hW p0 p1 p2 f0 f1 f2 HO B0 hb0 ho
      obtain ⟨⟨p0, p1, p2⟩, f0, f1, f2⟩ := b0.three
      clear b0
      have m2 : (m : Int) ≤ (l.length : Int) := by omega
      have m3 : 0 ≤ (m : Int) := by omega
      go_upto_region 3 with fail
      refine wp_region_still_tail 10 (by kernel_rfl) (by kernel_rfl) ?_
      simp only [List.take_succ_cons, List.take_zero, List.drop_succ_cons, List.drop_zero]
      repeat still_step
      refine wpStill_nil ?_
      change wpList _ _ _ _ _ W.drew
      obtain ⟨dp, hdp⟩ : ∃ dp, dp = (if c = m then (some ⟨g, 0, none⟩ : Option Addr) else some ⟨g, m * 2, none⟩) := ⟨_, rfl⟩
      rw [← hdp]
      have HDP := Lib.hid hdp
      clear hdp
      refine wpList_copy_over tCells 2 tCells_len tCells_one rfl _ _ _ _ rfl 139 Tryz.underlying135 sizeTally B W.drew g m c _ dp l HO1.out m1 rfl (fun h => by rw [HDP.out, if_neg (by omega)]) rfl ?_
      intro w1 ho1 ht1
      have b1 : bk w1 p 137 _ := BB.out.drew.turned ht1 (by omega)
      have HB1 := Lib.hid (HB0.out.drew.trans (ht1.below hBg (show B ≤ W.heap.size by omega)))
      have z1 := ht1.size
      replace z1 : W.heap.size ≤ w1.heap.size := z1
      have HO2 := Lib.hid ho1
      have B1 := Lib.hid b1
      clear ho1 ht1 p0 p1 p2 f0 f1 f2 BB HO1 HB0
      obtain ⟨⟨p0, p1, p2⟩, f0, f1, f2⟩ := b1.three
      clear b1
      have hl' : (l.take m ++ l.take (l.length - m)).length = l.length := by rw [List.length_append, List.length_take, List.length_take]; omega
      have HLR : Hid (List.replicate m ((0, 0) : TD) ++ (l.take m ++ l.take (l.length - m)).drop m = rollT m l) := Lib.hid (by
        unfold rollT
        rw [List.drop_append_of_le_length (by rw [List.length_take]; omega), List.drop_of_length_le (by rw [List.length_take]; omega), List.nil_append])
      generalize l.take m ++ l.take (l.length - m) = l' at HO2 HLR hl'
      have HL := Lib.hid hl'
      clear hl'
      go_upto_region 5 with (refine wpList_clear_over tCells 2 tCells_len tCells_one rfl _ _ rfl 139 Tryz.underlying135 #[.int .i64 0, .int .i64 0] infoTally2 (0, 0) rfl B w1 g m c _ l.length l' HL.out HO2.out m1 m0 rfl ?_)
      intro w2 ho2 ht2
      rw [HLR.out] at ho2
      have b2 : bk w2 p 137 _ := B1.out.turned ht2 (by omega)
      have z2 := ht2.size
      have HB2 := Lib.hid (HB1.out.trans (ht2.below hBg (show B ≤ w1.heap.size by omega)))
      have HO3 := Lib.hid ho2
      have B2 := Lib.hid b2
      clear ho2 ht2 p0 p1 p2 f0 f1 f2 B1 HO2 HB1 HLR HL
      obtain ⟨⟨p0, p1, p2⟩, f0, f1, f2⟩ := b2.three
      clear b2
      go_wp2
      refine bodyPost_end (results_none rfl _ _ _) rfl ?_
      rw [HH.out, HW.out]
      exact ⟨rfl, ⟨B2.out.set 1 _, HO3.out.set (by simpa [Value.ownBlock] using Ne.symm hgp) 1 _, hlow, by simpa [Value.ownBlock] using Ne.symm hgp⟩, HB2.out.setCell (p := ⟨p, 1, none⟩) hlow _⟩
  · have HH : Hid (winHead sp hd now = hd) := Lib.hid (if_neg hgo)
    have HW : Hid (winRoll sp hd now l = l) := Lib.hid (if_neg hgo)
    have g1 : now / sp ≤ hd := by omega
    go_enter Tryz.func131, Tryz.ntmps131
    go_wp2
    refine bodyPost_ret (results_none rfl _ _ _) rfl ?_
    rw [HH.out, HW.out]
    exact ⟨rfl, ⟨B0.out, HO.out, hlow, by simpa [Value.ownBlock] using Ne.symm hgp⟩, Below.refl _ _⟩
end Go.Proofs.YthnimmagaocipaaGreatDoor
set_option linter.unusedVariables false
namespace Go.Proofs.YthnimmagaocipaaGreatDoor
open Go.ChangeShapes Go.WideShapes Go.ChangeAt Go.RowKit

set_option maxRecDepth 100000 in
theorem zip_at {cs ss : List Int} {i : Nat} (h1 : i < cs.length) (h2 : i < ss.length) : (cs.zip ss)[i]? = some (cs.getD i 0, ss.getD i 0) := by
  rw [List.getElem?_zip_eq_some]
  exact ⟨by show cs[i]? = some (cs.getD i 0); rw [List.getD_eq_getElem?_getD, List.getElem?_eq_getElem h1]; rfl, by show ss[i]? = some (ss.getD i 0); rw [List.getD_eq_getElem?_getD, List.getElem?_eq_getElem h2]; rfl⟩
set_option maxRecDepth 100000 in
set_option maxHeartbeats 4000000 in
theorem implWindow_any (hi : Nat) (vc vs : Value) (r : RingD) (now : Int) (w : World) (h1 : rd .i64 hi w vc r.2.2.1) (h2 : rd .i64 hi w vs r.2.2.2) (hh : hi ≤ w.heap.size) (hok : ringOk r = true) (hti : timeB now = true) :
    Calls Tryz.prog 105 #[.agg #[.int .i64 r.1, .int .i64 r.2.1, vc, vs], .int .i64 now] w fun e w' => ∃ p v, e = .returned (.pointer (some ⟨p, 0, none⟩)) ∧ Win w.heap.size w' p r.1 (winHead r.1 r.2.1 now) v (winRoll r.1 r.2.1 now (r.2.2.1.zip r.2.2.2)) ∧ Below w.heap.size w w' := by
  obtain ⟨o1, o2, o3, o4, o5, o6, o7⟩ := ringOk_len hok
  obtain ⟨n3, n4⟩ : 0 ≤ now ∧ now ≤ 1000000000 := by simpa [timeB, inB] using hti
  obtain ⟨sp, hd, cs, ss⟩ := r
  simp only at h1 h2 o1 o2 o3 o4 o5 o6 o7 ⊢
  obtain ⟨A1, c1, rfl, -⟩ := h1.form
  obtain ⟨A2, c2, rfl, -⟩ := h2.form
  obtain ⟨a1, e1, rfl, -, -⟩ := ring_at h1 (List.getElem?_eq_getElem (show 0 < cs.length by omega))
  obtain ⟨a2, e2, rfl, -, -⟩ := ring_at h2 (List.getElem?_eq_getElem (show 0 < ss.length by omega))
  have HC := Lib.hid h1
  have HS := Lib.hid h2
  have HO5 := Lib.hid o5
  obtain ⟨zl, hzl⟩ : ∃ zl, zl = cs.zip ss := ⟨_, rfl⟩
  have hzn : zl.length = cs.length := by rw [hzl, List.length_zip, o5, Nat.min_self]
  have HZA : Hid (∀ i, i < cs.length → zl[i]? = some (cs.getD i 0, ss.getD i 0)) := Lib.hid fun i hi => by rw [hzl]; exact zip_at hi (by omega)
  rw [← hzl]
  have HZN := Lib.hid hzn
  clear h1 h2 hok hti hzl hzn o5
  go_enter Tryz.func105, Tryz.ntmps105
  go_wp2_with fail
  obtain ⟨W, hW⟩ : ∃ W, W = (w.alloc (.cells #[.int .i64 sp, .int .i64 hd, .slice (some ⟨a1, e1, none⟩) cs.length c1, .slice (some ⟨a2, e2, none⟩) ss.length c2] 47)).alloc (.cells #[.int .i64 sp, .int .i64 hd, .slice none 0 0] 137) := ⟨_, rfl⟩
  have b0 : bk W w.heap.size 47 [.int .i64 sp, .int .i64 hd, .slice (some ⟨a1, e1, none⟩) cs.length c1, .slice (some ⟨a2, e2, none⟩) ss.length c2] := by rw [hW]; exact (bk.new w _ _).alloc _
  have b1 : bk W (w.heap.size + 1) 137 [.int .i64 sp, .int .i64 hd, .slice none 0 0] := by rw [hW]; simpa using bk.new (w.alloc _) _ _
  have HB0 : Hid (Below w.heap.size w W) := Lib.hid (by rw [hW]; exact ((Below.refl _ _).alloc (Nat.le_refl _) _).alloc (by simp) _)
  have z0 : w.heap.size + 2 ≤ W.heap.size := by rw [hW]; simp
  rw [← hW]
  clear hW
  have B0 := Lib.hid b0
  have B1 := Lib.hid b1
  clear b0 b1
  go_loopw [17] (fun iv wr => ∃ (l : List TD) (A : Option Addr) (c : Nat), l.length ≤ cs.length ∧ iv = .int .i64 (l.length : Int) ∧ Hid (l = zl.take l.length) ∧ Hid (bk wr (w.heap.size + 1) 137 [.int .i64 sp, .int .i64 hd, .slice A l.length c]) ∧ Hid (owE 139 2 tCells (w.heap.size + 2) wr (.slice A l.length c) l) ∧ Hid (bk wr w.heap.size 47 [.int .i64 sp, .int .i64 hd, .slice (some ⟨a1, e1, none⟩) cs.length c1, .slice (some ⟨a2, e2, none⟩) ss.length c2]) ∧ Hid (Below w.heap.size w wr) ∧ w.heap.size + 2 ≤ wr.heap.size) (fun iv _ => cs.length - (intOf iv).toNat)
  case atStart => exact ⟨[], none, 0, Nat.zero_le _, rfl, Lib.hid rfl, B1, Lib.hid (owE_none _ _ _ _ _), B0, HB0, z0⟩
  case round =>
    obtain ⟨l, A, c, hl, rfl, HL, BW, HO, BR, HB, hz⟩ := hrel
    by_cases hin : l.length < cs.length
    · obtain ⟨-, d0⟩ := (HC.out.below HB.out hh).cell_at hin
      obtain ⟨-, d1⟩ := (HS.out.below HB.out hh).cell_at (show l.length < ss.length by rw [HO5.out]; exact hin)
      have HZ := Lib.hid (HZA.out _ hin)
      generalize cs.getD l.length 0 = x at d0 HZ
      generalize ss.getD l.length 0 = y at d1 HZ
      have g1 : (l.length : Int) < (cs.length : Int) := by omega
      have g3 : (l.length : Int) < (ss.length : Int) := by rw [HO5.out]; exact g1
      have g2 : 0 ≤ (l.length : Int) := by omega
      obtain ⟨⟨p0, p1, p2, p3⟩, -⟩ := BR.out.cells
      obtain ⟨⟨q0, q1, q2⟩, f0, f1, f2⟩ := BW.out.three
      have hL1 : l.length + 1 ≤ maxLen := by unfold maxLen; omega
      have hL2 : (l.length + 1) * 16 ≤ 140737488355328 := by omega
      have hne : (Value.slice A l.length c).ownBlock ≠ some (w.heap.size + 1) := fun e => by have := (HO.out.lt _ e).1; omega
      have hne0 : (Value.slice A l.length c).ownBlock ≠ some w.heap.size := fun e => by have := (HO.out.lt _ e).1; omega
      have HN1 := Lib.hid hne
      have HN0 := Lib.hid hne0
      clear hne hne0
      have bv := BW.out.alloc (.cells #[.int .i64 x, .int .i64 y] 139)
      obtain ⟨⟨v0, v1, v2⟩, -⟩ := bv.three
      clear bv
      go_upto_region 5 with fail
      go_region_law (refine app_elem_step tCells 2 tCells_len (by decide) tCells_one 135 139 #[.int .i64 0, .int .i64 0] 16 Tryz.underlying135 infoTally rfl _ _ (by rfl) (by rfl) (w.heap.size + 2) wr.drew _ l (x, y) _ _ (by rfl) (by rfl) (by rfl) rfl HO.out hL1 hL2 hz ?_; intro A6 c6 w6 hown6 hc6 hg6 hl6; have b6 := (BW.out.drew.alloc (.cells #[.int .i64 x, .int .i64 y] 139)).grown hg6 HN1.out; have r6 := (BR.out.drew.alloc (.cells #[.int .i64 x, .int .i64 y] 139)).grown hg6 HN0.out; obtain ⟨⟨m0, m1, m2⟩, k0, k1, k2⟩ := b6.three; have B6 := Lib.hid b6; have R6 := Lib.hid r6; have HO6 := Lib.hid hown6; have hz6 : wr.heap.size + 1 ≤ w6.heap.size := Nat.le_trans (by simp) hg6.size; have HB6 : Hid (Below w.heap.size w w6) := Lib.hid ((HB.out.drew.alloc (show w.heap.size ≤ wr.heap.size by omega) _).grown hg6 (Nat.le_trans (show w.heap.size ≤ wr.heap.size by omega) (by simp)) (fun k hk => by have := (HO.out.lt _ hk).1; omega)); clear b6 r6 hown6 hg6 hl6)
      all_goals
        go_wp2
        go_roundw
        case rel =>
          have hN6 : (Value.slice A6 (l.length + 1) c6).ownBlock ≠ some (w.heap.size + 1) := fun e => by have := (HO6.out.lt _ e).1; omega
          refine ⟨l ++ [(x, y)], A6, c6, by simp; omega, by simp [go_sem], Lib.hid ?_, Lib.hid (by simpa using B6.out.set 2 (.slice A6 (l.length + 1) c6)), Lib.hid (by simpa using HO6.out.set hN6 2 _), Lib.hid (R6.out.far (p := ⟨w.heap.size + 1, 2, none⟩) (by simp) _), Lib.hid (HB6.out.setCell (p := ⟨w.heap.size + 1, 2, none⟩) (by simp) _), by simp; omega⟩
          obtain ⟨h5, h6⟩ := List.getElem?_eq_some_iff.1 HZ.out
          rw [List.length_append, List.length_singleton, List.take_succ_eq_append_getElem h5, h6, ← HL.out]
        case measure => simp [intOf] <;> omega
    · have HLZ : Hid (l = zl) := Lib.hid (by rw [HL.out, List.take_of_length_le (by rw [HZN.out]; omega)])
      have g1 : ¬ (l.length : Int) < (cs.length : Int) := by omega
      go_wp2_with fail
      refine (implRoll_any w.heap.size (w.heap.size + 1) sp hd now _ l wr ⟨BW.out, HO.out.mono (by omega), by omega, fun e => by have := (HO.out.lt _ e).1; omega⟩ o1 n3 n4 o6 o7 (by omega) (by omega)).mono ?_
      rintro e w2 ⟨rfl, hwin, hb⟩
      go_wp2
      go_ret
      exact ⟨_, _, rfl, by rw [← HLZ.out]; exact hwin, HB.out.trans hb⟩
end Go.Proofs.YthnimmagaocipaaGreatDoor
set_option linter.unusedVariables false
namespace Go.Proofs.YthnimmagaocipaaGreatDoor
open Go.ChangeShapes Go.WideShapes Go.ChangeAt Go.RowKit

set_option maxRecDepth 100000 in
theorem infoIntN : (Tryz.prog.info? 3).map (fun i => (i.zero.map (·.cells), i.size, i.bytes)) = some (some #[.int .i64 0], 1, 8) := by kernel_rfl
end Go.Proofs.YthnimmagaocipaaGreatDoor
set_option linter.unusedVariables false
namespace Go.Proofs.YthnimmagaocipaaGreatDoor
open Go.ChangeShapes Go.WideShapes Go.ChangeAt Go.RowKit

set_option maxRecDepth 100000 in
theorem blk_own {v : Value} {b : Nat} (h : Proofs.YthnimmagaocipaaGreatDoor.blk v = some b) : v.ownBlock = some b := by
  unfold Proofs.YthnimmagaocipaaGreatDoor.blk at h
  split at h
  · exact h
  · cases h
set_option maxRecDepth 100000 in
set_option maxHeartbeats 4000000 in
theorem implRingOf_any (B p : Nat) (sp hd : Int) (v : Value) (l : List TD) (w : World) (hw : Win B w p sp hd v l) (hl : l.length ≤ 8) :
    Calls Tryz.prog 104 #[.pointer (some ⟨p, 0, none⟩)] w (ringOne (sp, hd, l.map Prod.fst, l.map Prod.snd) w) := by
  obtain ⟨b0, ho, -, -⟩ := hw
  obtain ⟨A, c, rfl, hlc⟩ := ho.form
  have HO := Lib.hid ho
  have BW := Lib.hid b0
  have y0 := b0.lt
  clear ho b0
  go_enter Tryz.func104, Tryz.ntmps104
  go_upto_region 1 with fail
  obtain ⟨W, hW⟩ : ∃ W, W = w.alloc (.cells #[.int .i64 0, .int .i64 0, .slice none 0 0, .slice none 0 0] 47) := ⟨_, rfl⟩
  have b0 : bk W w.heap.size 47 [.int .i64 0, .int .i64 0, .slice none 0 0, .slice none 0 0] := by rw [hW]; exact bk.new w _ _
  have HB0 : Hid (Below w.heap.size w W) := Lib.hid (by rw [hW]; exact (Below.refl _ _).alloc (Nat.le_refl _) _)
  have z0 : W.heap.size = w.heap.size + 1 := by rw [hW]; simp
  rw [← hW]
  clear hW
  obtain ⟨⟨p0, p1, p2⟩, -⟩ := (BW.out.below HB0.out y0).three
  have B0 := Lib.hid b0
  clear b0
  go_cut [3] (fun cv wx => cv = .pointer (some ⟨w.heap.size + 1, 0, none⟩) ∧ bk wx (w.heap.size + 1) 47 [.int .i64 sp, .int .i64 hd, .slice none 0 0, .slice none 0 0] ∧ bk wx w.heap.size 47 [.int .i64 0, .int .i64 0, .slice none 0 0, .slice none 0 0] ∧ Below w.heap.size w wx)
  case first =>
    go_region_held3 (fun V => V.cell? ⟨p, 0, none⟩ = some (.int .i64 sp) ∧ V.cell? ⟨p, 1, none⟩ = some (.int .i64 hd)) (go_keep) (fail)
    go_wp2
    go_meet
    refine ⟨rfl, ?_, (B0.out.alloc _).drew, (HB0.out.alloc (by omega) _).drew⟩
    have h := bk.new W 47 [.int .i64 sp, .int .i64 hd, .slice none 0 0, .slice none 0 0]
    rw [z0] at h
    exact h.drew
  case rest =>
    obtain ⟨rfl, b1, b0, hb⟩ := hcut
    have HBC := Lib.hid hb
    have B1 := Lib.hid b1
    have B0 := Lib.hid b0
    have zc := b1.lt
    obtain ⟨⟨p0, p1, p2⟩, -⟩ := (BW.out.below hb y0).three
    clear hb b1 b0
    go_upto_region 3 with fail
    clear p0 p1 p2
    go_loopw [20] (fun iv wr => ∃ (X Y : List Int) (A1 A2 : Option Addr) (c1 c2 : Nat), X.length ≤ l.length ∧ iv = .int .i64 (X.length : Int) ∧ Hid (Y.length = X.length) ∧ Hid (X = (l.take X.length).map Prod.fst) ∧ Hid (Y = (l.take X.length).map Prod.snd) ∧ Hid (bk wr (w.heap.size + 1) 47 [.int .i64 sp, .int .i64 hd, .slice A1 X.length c1, .slice A2 Y.length c2]) ∧ Hid (owE 3 1 iCells (w.heap.size + 2) wr (.slice A1 X.length c1) X) ∧ Hid (owE 3 1 iCells (w.heap.size + 2) wr (.slice A2 Y.length c2) Y) ∧ Hid (∀ g, (Value.slice A1 X.length c1).ownBlock = some g → (Value.slice A2 Y.length c2).ownBlock ≠ some g) ∧ Hid (bk wr w.heap.size 47 [.int .i64 0, .int .i64 0, .slice none 0 0, .slice none 0 0]) ∧ Hid (Below w.heap.size w wr) ∧ w.heap.size + 2 ≤ wr.heap.size) (fun iv _ => l.length - (intOf iv).toNat)
    case atStart => exact ⟨[], [], none, none, 0, 0, Nat.zero_le _, rfl, Lib.hid rfl, Lib.hid rfl, Lib.hid rfl, B1, Lib.hid (owE_none _ _ _ _ _), Lib.hid (owE_none _ _ _ _ _), Lib.hid (by intro g h; cases h), B0, HBC, by omega⟩
    case round =>
      obtain ⟨X, Y, A1, A2, c1, c2, hX, rfl, HYX, HX, HY, BR, HO1, HO2, HD, B0, HB, hz⟩ := hrel
      by_cases hin : X.length < l.length
      · rcases (HO.out.below HB.out (Nat.le_refl _)).filled tCells_len (0, 0) with ⟨h0, -⟩ | ⟨g, c', hv, -, -, hgl, hfl⟩
        · rw [h0] at hin; exact absurd hin (by simp)
        simp only [Value.slice.injEq, true_and] at hv
        obtain ⟨rfl, rfl⟩ := hv
        have hat := hfl.at_ X.length hin
        have d0 := hat 0 _ rfl
        have d1 := hat 1 _ rfl
        obtain ⟨t, ht⟩ : ∃ t, t = l.getD X.length (0, 0) := ⟨_, rfl⟩
        have HT : Hid (l[X.length]? = some t) := Lib.hid (by rw [ht, List.getD_eq_getElem?_getD, List.getElem?_eq_getElem hin]; rfl)
        rw [← ht, Nat.zero_add] at d0 d1
        rw [Nat.add_zero] at d0
        clear hat hfl ht
        obtain ⟨x, y⟩ := t
        have g1 : (X.length : Int) < (l.length : Int) := by omega
        have g2 : 0 ≤ (X.length : Int) := by omega
        go_upto_region 5 with fail
        obtain ⟨W4, hW4⟩ : ∃ W4, W4 = wr.alloc (.cells #[.int .i64 x, .int .i64 y] 139) := ⟨_, rfl⟩
        rw [← hW4]
        have BT := bk.new wr 139 [.int .i64 x, .int .i64 y]
        rw [show ([Value.int .i64 x, .int .i64 y] : List Value).toArray = #[.int .i64 x, .int .i64 y] from rfl] at BT
        have hb4 := (Below.refl wr.heap.size wr).alloc (Nat.le_refl _) (.cells #[.int .i64 x, .int .i64 y] 139)
        rw [← hW4] at BT hb4
        have z4 : W4.heap.size = wr.heap.size + 1 := by rw [hW4]; simp
        clear hW4 d0 d1
        have BT4 := Lib.hid BT
        have BR4 := Lib.hid (BR.out.below hb4 (by omega))
        have B04 := Lib.hid (B0.out.below hb4 (by omega))
        have HB4 := Lib.hid (HB.out.trans (hb4.mono (by omega)))
        have HX4 := Lib.hid (HO1.out.below hb4 (Nat.le_refl _))
        have HY4 := Lib.hid (HO2.out.below hb4 (Nat.le_refl _))
        have HO1lt : Hid (∀ g, (Value.slice A1 X.length c1).ownBlock = some g → g < wr.heap.size) := Lib.hid fun g h => (HO1.out.lt g h).2
        have HO2lt : Hid (∀ g, (Value.slice A2 Y.length c2).ownBlock = some g → g < wr.heap.size) := Lib.hid fun g h => (HO2.out.lt g h).2
        clear BT hb4 BR B0 HB HO1 HO2
        obtain ⟨⟨p0, p1, p2, p3⟩, q0, q1, q2, q3⟩ := BR4.out.cells
        have t0 := BT4.out.cell 0
        have t1 := BT4.out.cell 1
        simp only [List.getElem?_cons_zero, List.getElem?_cons_succ] at t0 t1
        have HN0 : Hid ((Value.slice A1 X.length c1).ownBlock ≠ some w.heap.size) := Lib.hid fun e => by have := (HX4.out.lt _ e).1; omega
        have HN1 : Hid ((Value.slice A1 X.length c1).ownBlock ≠ some (w.heap.size + 1)) := Lib.hid fun e => by have := (HX4.out.lt _ e).1; omega
        have HN2 : Hid ((Value.slice A1 X.length c1).ownBlock ≠ some wr.heap.size) := Lib.hid fun e => by have := (HO1lt.out _ e); omega
        have vR := BR4.out.alloc (.cells #[.int .i64 x] 3)
        obtain ⟨⟨v0, v1, v2, v3⟩, -⟩ := vR.cells
        clear vR
        go_upto_region 6 with (at_builtin; refine app_elem iCells 1 (fun _ => rfl) (by decide) iCells_one 37 3 #[.int .i64 0] 8 Tryz.underlying37 infoIntN rfl _ _ rfl (by rfl) (w.heap.size + 2) W4 _ X x _ _ (by rfl) (by rfl) (by rfl) (by omega) HX4.out (by unfold maxLen; omega) (by omega) (by omega) ?_; intro A6 c6 w6 hown6 hc6 hg6 hl6; have b6 := (BR4.out.alloc (.cells #[.int .i64 x] 3)).grown hg6 HN1.out; have HR6 := Lib.hid b6; have H06 := Lib.hid ((B04.out.alloc (.cells #[.int .i64 x] 3)).grown hg6 HN0.out); have HT6 := Lib.hid ((BT4.out.alloc (.cells #[.int .i64 x] 3)).grown hg6 HN2.out); have HX6 := Lib.hid hown6; have HL6 := Lib.hid hl6; have HY6 := Lib.hid ((HY4.out.alloc (.cells #[.int .i64 x] 3)).grown hg6 (fun g h e => HD.out g e h)); have z6 : W4.heap.size + 1 ≤ w6.heap.size := Nat.le_trans (by simp) hg6.size; have HB6 : Hid (Below w.heap.size w w6) := Lib.hid ((HB4.out.alloc (by omega) _).grown hg6 (by simp; omega) (fun k hk => by have := (HX4.out.lt _ hk).1; omega)); clear hown6 hg6 hl6; obtain ⟨⟨m0, m1, m2, m3⟩, n0, n1, n2, n3⟩ := b6.cells; clear b6)
        obtain ⟨W7, hW7⟩ : ∃ W7, W7 = w6.setCell ⟨w.heap.size + 1, 2, none⟩ (.slice A6 (X.length + 1) c6) := ⟨_, rfl⟩
        have hN6 : (Value.slice A6 (X.length + 1) c6).ownBlock ≠ some (w.heap.size + 1) := fun e => by have := (HX6.out.lt _ e).1; omega
        have hN6' : (Value.slice A2 Y.length c2).ownBlock ≠ some (w.heap.size + 1) := fun e => by have := (HY6.out.lt _ e).1; omega
        have HR7 := Lib.hid (HR6.out.set 2 (.slice A6 (X.length + 1) c6))
        have H07 := Lib.hid (H06.out.far (p := ⟨w.heap.size + 1, 2, none⟩) (by simp) (.slice A6 (X.length + 1) c6))
        have HT7 := Lib.hid (HT6.out.far (p := ⟨w.heap.size + 1, 2, none⟩) (show wr.heap.size ≠ w.heap.size + 1 by omega) (.slice A6 (X.length + 1) c6))
        have HX7 := Lib.hid (HX6.out.set hN6 2 (.slice A6 (X.length + 1) c6))
        have HY7 := Lib.hid (HY6.out.set hN6' 2 (.slice A6 (X.length + 1) c6))
        have HB7 := Lib.hid (HB6.out.setCell (p := ⟨w.heap.size + 1, 2, none⟩) (by simp) (.slice A6 (X.length + 1) c6))
        have z7 : w6.heap.size = (w6.setCell ⟨w.heap.size + 1, 2, none⟩ (.slice A6 (X.length + 1) c6)).heap.size := by simp
        have HD7 : Hid (∀ g, (Value.slice A6 (X.length + 1) c6).ownBlock = some g → (Value.slice A2 Y.length c2).ownBlock ≠ some g) := Lib.hid fun g hg e => by
          rcases HL6.out with h | h
          · exact HD.out g (h ▸ hg) e
          · rw [h] at hg
            have := HO2lt.out g e
            cases hg
            omega
        rw [← hW7] at HR7 H07 HT7 HX7 HY7 HB7 z7 ⊢
        clear hW7 hN6 hN6' HR6 H06 HT6 HX6 HY6 HB6 HL6 HD BT4 BR4 B04 HB4 HX4 HY4 p0 p1 p2 p3 q0 q1 q2 q3 t0 t1 v0 v1 v2 v3 m0 m1 m2 m3 n0 n1 n2 n3
        have HR7' : Hid (bk W7 (w.heap.size + 1) 47 [.int .i64 sp, .int .i64 hd, .slice A6 (X.length + 1) c6, .slice A2 Y.length c2]) := HR7
        obtain ⟨⟨p0, p1, p2, p3⟩, q0, q1, q2, q3⟩ := HR7'.out.cells
        have t0 := HT7.out.cell 0
        have t1 := HT7.out.cell 1
        simp only [List.getElem?_cons_zero, List.getElem?_cons_succ] at t0 t1
        have HM0 : Hid ((Value.slice A2 Y.length c2).ownBlock ≠ some w.heap.size) := Lib.hid fun e => by have := (HY7.out.lt _ e).1; omega
        have HM1 : Hid ((Value.slice A2 Y.length c2).ownBlock ≠ some (w.heap.size + 1)) := Lib.hid fun e => by have := (HY7.out.lt _ e).1; omega
        have vR := HR7'.out.alloc (.cells #[.int .i64 y] 3)
        obtain ⟨⟨v0, v1, v2, v3⟩, -⟩ := vR.cells
        clear vR HR7
        go_upto_region 7 with (at_builtin; refine app_elem iCells 1 (fun _ => rfl) (by decide) iCells_one 37 3 #[.int .i64 0] 8 Tryz.underlying37 infoIntN rfl _ _ rfl (by rfl) (w.heap.size + 2) W7 _ Y y _ _ (by rfl) (by rfl) (by rfl) rfl HY7.out (by have := HYX.out; unfold maxLen; omega) (by have := HYX.out; omega) (by omega) ?_; intro A9 c9 w9 hown9 hc9 hg9 hl9; have b9 := (HR7'.out.alloc (.cells #[.int .i64 y] 3)).grown hg9 HM1.out; have HR9 := Lib.hid b9; have H09 := Lib.hid ((H07.out.alloc (.cells #[.int .i64 y] 3)).grown hg9 HM0.out); have HY9 := Lib.hid hown9; have HL9 := Lib.hid hl9; have HX9 := Lib.hid ((HX7.out.alloc (.cells #[.int .i64 y] 3)).grown hg9 (fun g h e => HD7.out g h e)); have z9 : W7.heap.size + 1 ≤ w9.heap.size := Nat.le_trans (by simp) hg9.size; have HB9 : Hid (Below w.heap.size w w9) := Lib.hid ((HB7.out.alloc (by omega) _).grown hg9 (by simp; omega) (fun k hk => by have := (HY7.out.lt _ hk).1; omega)); clear hown9 hg9 hl9; obtain ⟨⟨m0, m1, m2, m3⟩, n0, n1, n2, n3⟩ := b9.cells; clear b9)
        go_wp2
        go_roundw
        case rel =>
          have hK9 : (Value.slice A9 (Y.length + 1) c9).ownBlock ≠ some (w.heap.size + 1) := fun e => by have := (HY9.out.lt _ e).1; omega
          have hK9' : (Value.slice A6 (X.length + 1) c6).ownBlock ≠ some (w.heap.size + 1) := fun e => by have := (HX9.out.lt _ e).1; omega
          obtain ⟨h5, h6⟩ := List.getElem?_eq_some_iff.1 HT.out
          refine ⟨X ++ [x], Y ++ [y], A6, A9, c6, c9, by simp; omega, by simp [go_sem], Lib.hid (by simp [HYX.out]), Lib.hid ?_, Lib.hid ?_, Lib.hid (by simpa using HR9.out.set 3 (.slice A9 (Y.length + 1) c9)), Lib.hid (by simpa using HX9.out.set hK9' 3 _), Lib.hid (by simpa using HY9.out.set hK9 3 _), Lib.hid ?_, Lib.hid (H09.out.far (p := ⟨w.heap.size + 1, 3, none⟩) (by simp) _), Lib.hid (HB9.out.setCell (p := ⟨w.heap.size + 1, 3, none⟩) (by simp) _), by simp; omega⟩
          · rw [List.length_append, List.length_singleton, List.take_succ_eq_append_getElem h5, h6, List.map_append, ← HX.out]; rfl
          · rw [List.length_append, List.length_singleton, List.take_succ_eq_append_getElem h5, h6, List.map_append, ← HY.out]; rfl
          · intro g hg e
            simp only [List.length_append, List.length_singleton] at hg e
            rcases HL9.out with h | h
            · exact HD7.out g hg (h ▸ e)
            · rw [h] at e
              have := (HX7.out.lt g hg).2
              cases e
              omega
        case measure => simp [intOf] <;> omega
      · have HXL : Hid (l.map Prod.fst = X) := Lib.hid (by rw [HX.out, List.take_of_length_le (by omega)])
        have HYL : Hid (l.map Prod.snd = Y) := Lib.hid (by rw [HY.out, List.take_of_length_le (by omega)])
        have g1 : ¬ (X.length : Int) < (l.length : Int) := by omega
        have HU := Lib.hid HO1.out.ints.nums
        have HV := Lib.hid HO2.out.ints.nums
        obtain ⟨⟨p0, p1, p2, p3⟩, -⟩ := BR.out.cells
        obtain ⟨⟨r0, r1, r2, r3⟩, f0, f1, f2, f3⟩ := B0.out.cells
        have HAP : Hid (∀ b, Proofs.YthnimmagaocipaaGreatDoor.blk (.slice A1 X.length c1) = some b → Proofs.YthnimmagaocipaaGreatDoor.blk (.slice A2 Y.length c2) ≠ some b) := Lib.hid fun b h h' => HD.out b (blk_own h) (blk_own h')
        clear HO1 HO2 HD BR B0
        go_wp2
        refine bodyPost_ret (v := .agg #[.int .i64 sp, .int .i64 hd, .slice A1 X.length c1, .slice A2 Y.length c2]) (by simp [results, Tryz.results104, go_sem, r0, r1, r2, r3]) rfl ?_
        rw [HXL.out, HYL.out]
        have ht := ((((Turned.refl w.heap.size (w.heap.size + 1) wr).set (b := w.heap.size) 0 (.int .i64 sp) (by omega) (by omega)).set (b := w.heap.size) 1 (.int .i64 hd) (by omega) (by omega)).set (b := w.heap.size) 2 (.slice A1 X.length c1) (by omega) (by omega)).set (b := w.heap.size) 3 (.slice A2 Y.length c2) (by omega) (by omega)
        have hsz := ht.size
        exact ⟨_, _, rfl, ring_mine_of ((HU.out.turned ht (.inr (by omega)) (by omega)).mono (by omega) (by omega)) ((HV.out.turned ht (.inr (by omega)) (by omega)).mono (by omega) (by omega)) HAP.out, HB.out.trans (ht.below (Nat.le_refl _) (by omega))⟩
end Go.Proofs.YthnimmagaocipaaGreatDoor
set_option linter.unusedVariables false
namespace Go.Proofs.YthnimmagaocipaaGreatDoor
open Go.ChangeShapes Go.WideShapes Go.ChangeAt Go.RowKit

set_option maxRecDepth 100000 in
theorem shiftL_roll (k : Nat) (l : List Int) : shiftL k l = List.replicate (min k l.length) 0 ++ l.take (l.length - min k l.length) := by
  apply List.ext_getElem?
  intro i
  by_cases hi : i < l.length
  · rw [shiftL_at hi]
    by_cases hk : k ≤ i
    · rw [if_pos hk, List.getElem?_append_right (by rw [List.length_replicate]; omega), List.length_replicate, List.getElem?_take, if_pos (by omega), List.getD_eq_getElem?_getD, show i - min k l.length = i - k by omega, List.getElem?_eq_getElem (by omega : i - k < l.length)]; rfl
    · rw [if_neg hk, List.getElem?_append_left (by rw [List.length_replicate]; omega), List.getElem?_replicate, if_pos (by omega)]
  · rw [List.getElem?_eq_none (by rw [shiftL_len]; omega), List.getElem?_eq_none (by rw [List.length_append, List.length_replicate, List.length_take]; omega)]
set_option maxRecDepth 100000 in
theorem zip_fst {cs ss : List Int} (h : ss.length = cs.length) : (cs.zip ss).map Prod.fst = cs := List.map_fst_zip (by omega)
set_option maxRecDepth 100000 in
theorem zip_snd {cs ss : List Int} (h : ss.length = cs.length) : (cs.zip ss).map Prod.snd = ss := List.map_snd_zip (by omega)
set_option maxRecDepth 100000 in
theorem rollT_fst (k : Nat) (l : List TD) (hk : k ≤ l.length) : (rollT k l).map Prod.fst = List.replicate k 0 ++ (l.map Prod.fst).take ((l.map Prod.fst).length - k) := by
  unfold rollT
  rw [List.map_append, List.map_replicate, List.map_take, List.length_map]
set_option maxRecDepth 100000 in
theorem rollT_snd (k : Nat) (l : List TD) (hk : k ≤ l.length) : (rollT k l).map Prod.snd = List.replicate k 0 ++ (l.map Prod.snd).take ((l.map Prod.snd).length - k) := by
  unfold rollT
  rw [List.map_append, List.map_replicate, List.map_take, List.length_map]
set_option maxRecDepth 100000 in
/-- a window that rolls is a ring that rolls -/
theorem roll_win {r : RingD} {now : Int} (hok : ringOk r = true) (ht : timeB now = true) : ringRoll r now = (r.1, winHead r.1 r.2.1 now, (winRoll r.1 r.2.1 now (r.2.2.1.zip r.2.2.2)).map Prod.fst, (winRoll r.1 r.2.1 now (r.2.2.1.zip r.2.2.2)).map Prod.snd) := by
  obtain ⟨-, -, -, -, o5, -, -⟩ := ringOk_len hok
  obtain ⟨sp, hd, cs, ss⟩ := r
  simp only at o5 ⊢
  have hz : (cs.zip ss).length = cs.length := by rw [List.length_zip, o5, Nat.min_self]
  unfold ringRoll ringGo winHead winRoll
  rw [hok, ht]
  simp only [Bool.true_and, decide_eq_true_eq]
  split
  · rw [shiftL_roll, shiftL_roll, hz, rollT_fst _ _ (by rw [hz]; exact Nat.min_le_right _ _), rollT_snd _ _ (by rw [hz]; exact Nat.min_le_right _ _), zip_fst o5, zip_snd o5, o5]
  · rw [zip_fst o5, zip_snd o5]
set_option maxRecDepth 100000 in
theorem win_len {r : RingD} {now : Int} (hok : ringOk r = true) : (winRoll r.1 r.2.1 now (r.2.2.1.zip r.2.2.2)).length = r.2.2.1.length ∧ r.2.2.1.length ≤ 8 ∧ 1 ≤ r.2.2.1.length := by
  obtain ⟨-, -, o3, o4, o5, -, -⟩ := ringOk_len hok
  rw [winRoll_len, List.length_zip, o5, Nat.min_self]
  exact ⟨rfl, o4, o3⟩
set_option maxRecDepth 100000 in
theorem roll_not {r : RingD} {now : Int} (h : (ringOk r && timeB now) = false) : ringRoll r now = r := by
  unfold ringRoll ringGo
  rw [← Bool.and_assoc, h]
  rfl

set_option maxRecDepth 100000 in
set_option maxHeartbeats 4000000 in
theorem implRingRoll_any (hi : Nat) (vc vs : Value) (r : RingD) (now : Int) (w : World) (h1 : rd .i64 hi w vc r.2.2.1) (h2 : rd .i64 hi w vs r.2.2.2) (hh : hi ≤ w.heap.size) (hc : r.2.2.1.length ≤ 1048576) (hs : r.2.2.2.length ≤ 1048576) :
    Calls Tryz.prog 65 #[.agg #[.int .i64 r.1, .int .i64 r.2.1, vc, vs], .int .i64 now] w (ringOne (ringRoll r now) w) := by
  obtain ⟨A1, c1, rfl, -⟩ := h1.form
  obtain ⟨A2, c2, rfl, -⟩ := h2.form
  have HCP := Lib.hid (fun W (hW : Below w.heap.size w W) => implCopy_any hi _ _ r W (h1.below hW hh) (h2.below hW hh) (Nat.le_trans hh hW.size) hc hs)
  have HCR := Lib.hid (fun W (hW : Below w.heap.size w W) => implCanRoll_any hi _ _ r now W (h1.below hW hh) (h2.below hW hh) (Nat.le_trans hh hW.size) hc hs)
  have HWA := Lib.hid (fun hk ht W (hW : Below w.heap.size w W) => implWindow_any hi _ _ r now W (h1.below hW hh) (h2.below hW hh) (Nat.le_trans hh hW.size) hk ht)
  have HRW := Lib.hid (fun hk ht => roll_win (r := r) (now := now) hk ht)
  have HRN := Lib.hid (fun h => roll_not (r := r) (now := now) h)
  have HLN := Lib.hid (fun hk => win_len (r := r) (now := now) hk)
  clear h1 h2
  generalize ringOk r = ok at HCR HWA HRW HRN HLN
  generalize timeB now = tm at HCR HWA HRW HRN
  obtain ⟨sp, hd, uc, us⟩ := r
  simp only at hc hs HCP HCR HWA HRW HRN HLN ⊢
  go_enter Tryz.func65, Tryz.ntmps65
  go_upto_region 1 with fail
  obtain ⟨W, hW⟩ : ∃ W, W = (w.alloc (.cells #[.int .i64 sp, .int .i64 hd, .slice A1 uc.length c1, .slice A2 us.length c2] 47)).alloc (.cells #[.int .i64 0, .int .i64 0, .slice none 0 0, .slice none 0 0] 47) := ⟨_, rfl⟩
  have b0 : bk W w.heap.size 47 [.int .i64 sp, .int .i64 hd, .slice A1 uc.length c1, .slice A2 us.length c2] := by rw [hW]; exact (bk.new w _ _).alloc _
  have b1 : bk W (w.heap.size + 1) 47 [.int .i64 0, .int .i64 0, .slice none 0 0, .slice none 0 0] := by rw [hW]; simpa using bk.new (w.alloc _) _ _
  have HB0 : Hid (Below w.heap.size w W) := Lib.hid (by rw [hW]; exact ((Below.refl _ _).alloc (Nat.le_refl _) _).alloc (by simp) _)
  have z0 : w.heap.size + 2 ≤ W.heap.size := by rw [hW]; simp
  rw [← hW]
  clear hW
  obtain ⟨⟨p0, p1, p2, p3⟩, -⟩ := b0.cells
  go_wp2_with fail
  refine (HCR.out W HB0.out).mono ?_
  rintro e w0 ⟨rfl, hb0⟩
  have y0 := hb0.size
  have HBX : Hid (Below w.heap.size w w0) := Lib.hid (HB0.out.trans (hb0.mono (by omega)))
  replace b0 := b0.below hb0 (by omega)
  replace b1 := b1.below hb0 (by omega)
  clear hb0 HB0 p0 p1 p2 p3 HCR
  obtain ⟨⟨p0, p1, p2, p3⟩, -⟩ := b0.cells
  cases hg : (ok && tm)
  · have HRF := Lib.hid (HRN.out hg)
    clear HRN HRW HWA HLN hg b0
    go_wp2_with fail
    refine (HCP.out w0 HBX.out).mono ?_
    rintro e w1 ⟨vc', vs', rfl, hm1, hb1⟩
    clear p0 p1 p2 p3 HCP
    obtain ⟨vc2, vs2, hv, hnc, hns, hap⟩ := ring_mine hm1
    simp only [List.cons.injEq, and_true, true_and] at hv
    obtain ⟨rfl, rfl⟩ := hv
    obtain ⟨AU, cU, rfl, -⟩ := hnc.form
    obtain ⟨AV, cV, rfl, -⟩ := hns.form
    have z1 := hb1.size
    replace b1 := b1.below hb1 (by omega)
    have HB1 : Hid (Below w.heap.size w w1) := Lib.hid (HBX.out.trans (hb1.mono (by omega)))
    have HU := Lib.hid hnc
    have HV := Lib.hid hns
    have HAP := Lib.hid hap
    clear hm1 hb1 hnc hns hap
    obtain ⟨⟨r0, r1, r2, r3⟩, f0, f1, f2, f3⟩ := b1.cells
    clear b1
    go_wp2
    refine bodyPost_ret (v := .agg #[.int .i64 sp, .int .i64 hd, .slice AU uc.length cU, .slice AV us.length cV]) (by simp [results, Tryz.results65, go_sem, r0, r1, r2, r3]) rfl ?_
    rw [HRF.out]
    have ht := ((((Turned.refl (w.heap.size + 1) (w.heap.size + 2) w1).set (b := w.heap.size + 1) 0 (.int .i64 sp) (by omega) (by omega)).set (b := w.heap.size + 1) 1 (.int .i64 hd) (by omega) (by omega)).set (b := w.heap.size + 1) 2 (.slice AU uc.length cU) (by omega) (by omega)).set (b := w.heap.size + 1) 3 (.slice AV us.length cV) (by omega) (by omega)
    have hsz := ht.size
    exact ⟨_, _, rfl, ring_mine_of ((HU.out.turned ht (.inr (by omega)) (by omega)).mono (by omega) (by omega)) ((HV.out.turned ht (.inr (by omega)) (by omega)).mono (by omega) (by omega)) HAP.out, HB1.out.trans (ht.below (by omega) (by omega))⟩
  · simp only [Bool.and_eq_true] at hg
    obtain ⟨rfl, rfl⟩ := hg
    have HRF := Lib.hid (HRW.out (by trivial) (by trivial))
    obtain ⟨l1, l2, l3⟩ := HLN.out (by trivial)
    clear HRN HRW HLN HCP b0
    go_wp2_with fail
    refine (HWA.out (by trivial) (by trivial) w0 HBX.out).mono ?_
    rintro e w5 ⟨p, v, rfl, hwin, hb5⟩
    have z5 := hb5.size
    have HB5 : Hid (Below w.heap.size w w5) := Lib.hid (HBX.out.trans (hb5.mono (by omega)))
    replace b1 := b1.below hb5 (by omega)
    have HWI := Lib.hid hwin
    clear hb5 HBX hwin p0 p1 p2 p3 HWA
    generalize winHead sp hd now = hd2 at HWI HRF
    generalize winRoll sp hd now (uc.zip us) = wl at HWI HRF l1
    have HL1 : Hid (wl.length ≤ 8) := Lib.hid (by omega)
    clear l1
    go_wp2_with fail
    refine (implRingOf_any _ p sp hd2 v wl w5 HWI.out HL1.out).mono ?_
    rintro e w1 ⟨vc', vs', rfl, hm1, hb1⟩
    have HFX : Hid (wl.map Prod.fst = wl.map Prod.fst) := Lib.hid rfl
    simp only at hm1
    generalize wl.map Prod.fst = uc at HRF hm1
    generalize wl.map Prod.snd = us at HRF hm1
    obtain ⟨vc2, vs2, hv, hnc, hns, hap⟩ := ring_mine hm1
    simp only [List.cons.injEq, and_true, true_and] at hv
    obtain ⟨rfl, rfl⟩ := hv
    obtain ⟨AU, cU, rfl, -⟩ := hnc.form
    obtain ⟨AV, cV, rfl, -⟩ := hns.form
    have z1 := hb1.size
    replace b1 := b1.below hb1 (by omega)
    have HB1 : Hid (Below w.heap.size w w1) := Lib.hid (HB5.out.trans (hb1.mono (by omega)))
    have HU := Lib.hid hnc
    have HV := Lib.hid hns
    have HAP := Lib.hid hap
    clear hm1 hb1 hnc hns hap
    obtain ⟨⟨r0, r1, r2, r3⟩, f0, f1, f2, f3⟩ := b1.cells
    clear b1
    go_wp2
    refine bodyPost_ret (v := .agg #[.int .i64 sp, .int .i64 hd2, .slice AU uc.length cU, .slice AV us.length cV]) (by simp [results, Tryz.results65, go_sem, r0, r1, r2, r3]) rfl ?_
    rw [HRF.out]
    have ht := ((((Turned.refl (w.heap.size + 1) (w.heap.size + 2) w1).set (b := w.heap.size + 1) 0 (.int .i64 sp) (by omega) (by omega)).set (b := w.heap.size + 1) 1 (.int .i64 hd2) (by omega) (by omega)).set (b := w.heap.size + 1) 2 (.slice AU uc.length cU) (by omega) (by omega)).set (b := w.heap.size + 1) 3 (.slice AV us.length cV) (by omega) (by omega)
    have hsz := ht.size
    exact ⟨_, _, rfl, ring_mine_of ((HU.out.turned ht (.inr (by omega)) (by omega)).mono (by omega) (by omega)) ((HV.out.turned ht (.inr (by omega)) (by omega)).mono (by omega) (by omega)) HAP.out, HB1.out.trans (ht.below (by omega) (by omega))⟩
end Go.Proofs.YthnimmagaocipaaGreatDoor
set_option linter.unusedVariables false
namespace Go.Proofs.YthnimmagaocipaaGreatDoor
open Go.ChangeShapes Go.WideShapes Go.ChangeAt Go.RowKit

set_option maxRecDepth 100000 in
theorem swapHI {p0 p1 p2 : Nat} {w : World} {vh vc vs vl vh' : Value} {a : AcctD} {l : List HoldD} (h : AcctI p0 p1 w vh vc vs vl a) (hl : HoldsR.mine p1 p2 w [vh'] l) (h01 : p0 ≤ p1) (h12 : p1 ≤ p2) : AcctI p0 p2 w vh' vc vs vl (setH a l) := by
  obtain ⟨l1, h1, l2, h2, l3, h3, m1, m2, m3, hq, d1, d2, d3⟩ := h
  exact ⟨p1, p2, l2, h2, l3, h3, hl, m2, m3, by omega, by omega, by omega, d3⟩
set_option maxRecDepth 100000 in
theorem swapRI {p0 p1 p2 : Nat} {w : World} {vh vc vs vl vc' vs' : Value} {a : AcctD} {r : RingD} (h : AcctI p0 p1 w vh vc vs vl a) (hl : RingR.mine p1 p2 w [.int .i64 r.1, .int .i64 r.2.1, vc', vs'] r) (h01 : p0 ≤ p1) (h12 : p1 ≤ p2) : AcctI p0 p2 w vh vc' vs' vl (setR a r) := by
  obtain ⟨l1, h1, l2, h2, l3, h3, m1, m2, m3, hq, d1, d2, d3⟩ := h
  exact ⟨l1, h1, p1, p2, l3, h3, m1, hl, m3, by omega, by omega, d2, by omega⟩
set_option maxRecDepth 100000 in
set_option maxHeartbeats 8000000 in
theorem implAcctSwept_any (hi : Nat) (vh vc vs vl : Value) (a : AcctD) (now : Int) (w : World) (hg : Handle w) (hz : acctSmall 1048576 a) (hbig : acctBig a) (h : AcctR.rd hi w (aCells a vh vc vs vl) a) (hh : hi ≤ w.heap.size) :
    Calls Tryz.prog 63 #[.agg #[.string (aId a), .int .i64 (aLim a), .int .i64 (aPos a), .int .i64 (aMost a), .int .i64 (aSum a), vh, .int .i64 (aR a).1, .int .i64 (aR a).2.1, vc, vs, vl], .int .i64 now] w (acctOneI (acctSwept a now) w) := by
  have HOK := Lib.hid (fun W (hW : Below w.heap.size w W) => implHasState_any hi vh vc vs vl a now W (hg.below hW (Nat.le_refl _)) hz hbig (Rep.below (R := AcctR) h hW hh) (Nat.le_trans hh hW.size))
  have HCP := Lib.hid (fun W (hW : Below w.heap.size w W) => acctCopy_any hi vh vc vs vl a W hz (Rep.below (R := AcctR) h hW hh) (Nat.le_trans hh hW.size))
  obtain ⟨vh', vc', vs', vl', hcs, r1, r2, r3, r4⟩ := acct_rd h
  simp only [aCells, List.cons.injEq, and_true, true_and] at hcs
  obtain ⟨rfl, rfl, rfl, rfl⟩ := hcs
  have HLV := Lib.hid (fun W (hW : Below w.heap.size w W) => implLiveOnes_any hi _ (aH a) now W hz.h (Rep.below (R := HoldsR) r1 hW hh) (Nat.le_trans hh hW.size))
  clear h hz hbig hg
  have HSW : Hid (acctSwept a now = if (acctOk a && timeB now) = true then setH a (liveL (aH a) now) else a) := Lib.hid rfl
  generalize (acctOk a && timeB now) = ok at HOK HSW
  generalize acctSwept a now = am at HSW ⊢
  generalize liveL (aH a) now = ls at HSW HLV
  obtain ⟨id, lim, pos, most, sum, hs, ⟨sp, hd, cs, ss⟩, sl⟩ := a
  simp only [aId, aLim, aPos, aMost, aSum, aH, aS] at r1 r2 r3 r4 HOK HCP HLV ⊢
  obtain ⟨AH, cH, rfl, -⟩ := Rep.slice_form r1
  obtain ⟨AC, cC, rfl, -⟩ := r2.form
  obtain ⟨AS, cS, rfl, -⟩ := r3.form
  obtain ⟨AL, cL, rfl, -⟩ := Rep.slice_form r4
  clear r1 r2 r3 r4
  go_enter Tryz.func63, Tryz.ntmps63
  go_upto_region 1 with fail
  obtain ⟨W, hW⟩ : ∃ W, W = (w.alloc (.cells #[.string id, .int .i64 lim, .int .i64 pos, .int .i64 most, .int .i64 sum, .slice AH hs.length cH, .int .i64 sp, .int .i64 hd, .slice AC cs.length cC, .slice AS ss.length cS, .slice AL sl.length cL] 50)).alloc (.cells #[.string ⟨#[]⟩, .int .i64 0, .int .i64 0, .int .i64 0, .int .i64 0, .slice none 0 0, .int .i64 0, .int .i64 0, .slice none 0 0, .slice none 0 0, .slice none 0 0] 50) := ⟨_, rfl⟩
  have b0 : bk W w.heap.size 50 [.string id, .int .i64 lim, .int .i64 pos, .int .i64 most, .int .i64 sum, .slice AH hs.length cH, .int .i64 sp, .int .i64 hd, .slice AC cs.length cC, .slice AS ss.length cS, .slice AL sl.length cL] := by rw [hW]; exact (bk.new w _ _).alloc _
  have b1 : bk W (w.heap.size + 1) 50 [.string ⟨#[]⟩, .int .i64 0, .int .i64 0, .int .i64 0, .int .i64 0, .slice none 0 0, .int .i64 0, .int .i64 0, .slice none 0 0, .slice none 0 0, .slice none 0 0] := by rw [hW]; simpa using bk.new (w.alloc _) 50 [.string ⟨#[]⟩, .int .i64 0, .int .i64 0, .int .i64 0, .int .i64 0, .slice none 0 0, .int .i64 0, .int .i64 0, .slice none 0 0, .slice none 0 0, .slice none 0 0]
  have HB0 : Hid (Below w.heap.size w W) := Lib.hid (by rw [hW]; exact ((Below.refl _ _).alloc (Nat.le_refl _) _).alloc (by simp) _)
  have y0 : w.heap.size + 2 ≤ W.heap.size := by rw [hW]; simp
  rw [← hW]
  clear hW
  obtain ⟨⟨p0, p1, p2, p3, p4, p5, p6, p7, p8, p9, p10⟩, -⟩ := b0.eleven
  have B0 := Lib.hid b0
  have B1 := Lib.hid b1
  clear b0 b1
  go_wp2_with fail
  refine (HCP.out W HB0.out).mono ?_
  rintro e w1 ⟨uh, uc, us, ul, rfl, hm1, hb1⟩
  obtain ⟨xh, xc, xs, xl, hcs, q1, q2, q3, q4⟩ := acct_rd hm1.mine.rd
  simp only [aCells, List.cons.injEq, and_true, true_and] at hcs
  obtain ⟨rfl, rfl, rfl, rfl⟩ := hcs
  obtain ⟨A1, c1, rfl, -⟩ := Rep.slice_form q1
  obtain ⟨A3, c3, rfl, -⟩ := q2.form
  obtain ⟨A4, c4, rfl, -⟩ := q3.form
  obtain ⟨A6, c6, rfl, -⟩ := Rep.slice_form q4
  have z1 := hb1.size
  have HM1 := Lib.hid hm1
  have HB1 : Hid (Below w.heap.size w w1) := Lib.hid (HB0.out.trans (hb1.mono (by omega)))
  have C0 := Lib.hid (B0.out.below hb1 (by omega))
  have C1 := Lib.hid (B1.out.below hb1 (by omega))
  clear hm1 hb1 HB0 HCP B0 B1 q1 q2 q3 q4 p0 p1 p2 p3 p4 p5 p6 p7 p8 p9 p10
  simp only [aH, aS, aId, aLim, aPos, aMost, aSum] at HM1 ⊢
  obtain ⟨⟨p0, p1, p2, p3, p4, p5, p6, p7, p8, p9, p10⟩, -⟩ := C0.out.eleven
  go_upto_region 2 with fail
  obtain ⟨W2, hW2⟩ : ∃ W2, W2 = w1.alloc (.cells #[.string id, .int .i64 lim, .int .i64 pos, .int .i64 most, .int .i64 sum, .slice A1 hs.length c1, .int .i64 sp, .int .i64 hd, .slice A3 cs.length c3, .slice A4 ss.length c4, .slice A6 sl.length c6] 50) := ⟨_, rfl⟩
  have b2 : bk W2 w1.heap.size 50 [.string id, .int .i64 lim, .int .i64 pos, .int .i64 most, .int .i64 sum, .slice A1 hs.length c1, .int .i64 sp, .int .i64 hd, .slice A3 cs.length c3, .slice A4 ss.length c4, .slice A6 sl.length c6] := by rw [hW2]; exact bk.new w1 _ _
  have hb2 : Below w1.heap.size w1 W2 := by rw [hW2]; exact (Below.refl _ _).alloc (Nat.le_refl _) _
  rw [← hW2]
  clear hW2
  have z2 := b2.lt
  have B0 := Lib.hid (C0.out.below hb2 (by omega))
  have B1 := Lib.hid (C1.out.below hb2 (by omega))
  have B2 := Lib.hid b2
  have HM2 := Lib.hid (HM1.out.below hb2 (Nat.le_refl _))
  have HB2 : Hid (Below w.heap.size w W2) := Lib.hid (HB1.out.trans (hb2.mono (by omega)))
  clear hb2 b2 C0 C1 HM1 HB1 p0 p1 p2 p3 p4 p5 p6 p7 p8 p9 p10
  obtain ⟨⟨p0, p1, p2, p3, p4, p5, p6, p7, p8, p9, p10⟩, -⟩ := B0.out.eleven
  go_wp2_with fail
  refine (HOK.out W2 HB2.out).mono ?_
  rintro e w3 ⟨rfl, hb3⟩
  have z3 := hb3.size
  have C0 := Lib.hid (B0.out.below hb3 (by omega))
  have C1 := Lib.hid (B1.out.below hb3 (by omega))
  have C2 := Lib.hid (B2.out.below hb3 (by omega))
  have HM3 := Lib.hid (HM2.out.below hb3 (by omega))
  have HB3 : Hid (Below w.heap.size w w3) := Lib.hid (HB2.out.trans (hb3.mono (by omega)))
  clear hb3 B0 B1 B2 HM2 HB2 HOK p0 p1 p2 p3 p4 p5 p6 p7 p8 p9 p10
  cases ok
  · have HAM : Hid (am = (id, lim, pos, most, sum, hs, (sp, hd, cs, ss), sl)) := Lib.hid (by rw [HSW.out]; rfl)
    clear HSW HLV
    have b1 := C1.out
    have b2 := C2.out
    clear C0 C1 C2
    obtain ⟨⟨p0, p1, p2, p3, p4, p5, p6, p7, p8, p9, p10⟩, -⟩ := b2.eleven
    obtain ⟨⟨r0, r1, r2, r3, r4, r5, r6, r7, r8, r9, r10⟩, g0, g1, g2, g3, g4, g5, g6, g7, g8, g9, g10⟩ := b1.eleven
    clear b1 b2
    go_wp2
    refine bodyPost_ret (v := .agg #[.string id, .int .i64 lim, .int .i64 pos, .int .i64 most, .int .i64 sum, .slice A1 hs.length c1, .int .i64 sp, .int .i64 hd, .slice A3 cs.length c3, .slice A4 ss.length c4, .slice A6 sl.length c6]) (by simp [results, Tryz.results63, go_sem, r0, r1, r2, r3, r4, r5, r6, r7, r8, r9, r10]) rfl ?_
    have ht := (((((((((((Turned.refl w.heap.size (w.heap.size + 2) w3).set (b := w.heap.size + 1) 0 (.string id) (by omega) (by omega)).set (b := w.heap.size + 1) 1 (.int .i64 lim) (by omega) (by omega)).set (b := w.heap.size + 1) 2 (.int .i64 pos) (by omega) (by omega)).set (b := w.heap.size + 1) 3 (.int .i64 most) (by omega) (by omega)).set (b := w.heap.size + 1) 4 (.int .i64 sum) (by omega) (by omega)).set (b := w.heap.size + 1) 5 (.slice A1 hs.length c1) (by omega) (by omega)).set (b := w.heap.size + 1) 6 (.int .i64 sp) (by omega) (by omega)).set (b := w.heap.size + 1) 7 (.int .i64 hd) (by omega) (by omega)).set (b := w.heap.size + 1) 8 (.slice A3 cs.length c3) (by omega) (by omega)).set (b := w.heap.size + 1) 9 (.slice A4 ss.length c4) (by omega) (by omega)).set (b := w.heap.size + 1) 10 (.slice A6 sl.length c6) (by omega) (by omega)
    have hsz := ht.size
    rw [HAM.out]
    exact ⟨_, _, _, _, rfl, (HM3.out.turned ht (.inr (by omega)) (by omega)).mono (by omega) (by omega), HB3.out.trans (ht.below (by omega) (by omega))⟩
  · have HAM : Hid (am = (id, lim, pos, most, sum, ls, (sp, hd, cs, ss), sl)) := Lib.hid (by rw [HSW.out]; rfl)
    clear HSW
    obtain ⟨⟨p0, p1, p2, p3, p4, p5, p6, p7, p8, p9, p10⟩, -⟩ := C0.out.eleven
    go_wp2_with fail
    refine (HLV.out w3 HB3.out).mono ?_
    rintro e w5 ⟨u, rfl, hu, hb5⟩
    obtain ⟨AN, cN, rfl, -⟩ := Rep.slice_form hu.rd
    have z5 := hb5.size
    have HM5 := Lib.hid (HM3.out.below hb5 (by omega))
    have HU5 := Lib.hid hu
    have HB5 : Hid (Below w.heap.size w w5) := Lib.hid (HB3.out.trans (hb5.mono (by omega)))
    have D1 := Lib.hid (C1.out.below hb5 (by omega))
    have D2 := Lib.hid (C2.out.below hb5 (by omega))
    clear hu hb5 HM3 HB3 HLV C0 C1 C2 p0 p1 p2 p3 p4 p5 p6 p7 p8 p9 p10
    obtain ⟨⟨p0, p1, p2, p3, p4, p5, p6, p7, p8, p9, p10⟩, f0, f1, f2, f3, f4, f5, f6, f7, f8, f9, f10⟩ := D2.out.eleven
    have hq := (D2.out.set 5 (.slice AN ls.length cN))
    have ht5 := (Turned.refl w1.heap.size (w1.heap.size + 1) w5).set (b := w1.heap.size) 5 (.slice AN ls.length cN) (by omega) (by omega)
    go_upto_region 4 with fail
    obtain ⟨W6, hW6⟩ : ∃ W6, W6 = (w5.setCell ⟨w1.heap.size, 5, none⟩ (.slice AN ls.length cN)) := ⟨_, rfl⟩
    rw [← hW6] at hq ht5 ⊢
    clear hW6
    have z6 := ht5.size
    have HM6 := Lib.hid (swapHI (HM5.out.turned ht5 (.inl (Nat.le_refl _)) (by omega)) ((HU5.out.turned ht5 (.inr (by omega)) (Nat.le_refl _)).mono (lo' := w1.heap.size) (hi' := W6.heap.size) (by omega) (by omega)) (by omega) (by omega))
    have HB6 := Lib.hid (HB5.out.trans (ht5.below (B := w.heap.size) (by omega) (by omega)))
    have b1 := D1.out.under ht5 (by omega)
    have b2 : bk W6 w1.heap.size 50 [.string id, .int .i64 lim, .int .i64 pos, .int .i64 most, .int .i64 sum, .slice AN ls.length cN, .int .i64 sp, .int .i64 hd, .slice A3 cs.length c3, .slice A4 ss.length c4, .slice A6 sl.length c6] := hq
    clear hq ht5 HM5 HU5 HB5 D1 D2 p0 p1 p2 p3 p4 p5 p6 p7 p8 p9 p10 f0 f1 f2 f3 f4 f5 f6 f7 f8 f9 f10
    simp only [setH, aId, aLim, aPos, aMost, aSum, aR, aS] at HM6
    obtain ⟨⟨p0, p1, p2, p3, p4, p5, p6, p7, p8, p9, p10⟩, -⟩ := b2.eleven
    obtain ⟨⟨r0, r1, r2, r3, r4, r5, r6, r7, r8, r9, r10⟩, g0, g1, g2, g3, g4, g5, g6, g7, g8, g9, g10⟩ := b1.eleven
    clear b1 b2
    go_wp2
    refine bodyPost_ret (v := .agg #[.string id, .int .i64 lim, .int .i64 pos, .int .i64 most, .int .i64 sum, .slice AN ls.length cN, .int .i64 sp, .int .i64 hd, .slice A3 cs.length c3, .slice A4 ss.length c4, .slice A6 sl.length c6]) (by simp [results, Tryz.results63, go_sem, r0, r1, r2, r3, r4, r5, r6, r7, r8, r9, r10]) rfl ?_
    have ht := (((((((((((Turned.refl w.heap.size (w.heap.size + 2) W6).set (b := w.heap.size + 1) 0 (.string id) (by omega) (by omega)).set (b := w.heap.size + 1) 1 (.int .i64 lim) (by omega) (by omega)).set (b := w.heap.size + 1) 2 (.int .i64 pos) (by omega) (by omega)).set (b := w.heap.size + 1) 3 (.int .i64 most) (by omega) (by omega)).set (b := w.heap.size + 1) 4 (.int .i64 sum) (by omega) (by omega)).set (b := w.heap.size + 1) 5 (.slice AN ls.length cN) (by omega) (by omega)).set (b := w.heap.size + 1) 6 (.int .i64 sp) (by omega) (by omega)).set (b := w.heap.size + 1) 7 (.int .i64 hd) (by omega) (by omega)).set (b := w.heap.size + 1) 8 (.slice A3 cs.length c3) (by omega) (by omega)).set (b := w.heap.size + 1) 9 (.slice A4 ss.length c4) (by omega) (by omega)).set (b := w.heap.size + 1) 10 (.slice A6 sl.length c6) (by omega) (by omega)
    have hsz := ht.size
    rw [HAM.out]
    exact ⟨_, _, _, _, rfl, (HM6.out.turned ht (.inr (by omega)) (by omega)).mono (by omega) (by omega), HB6.out.trans (ht.below (by omega) (by omega))⟩
set_option maxRecDepth 100000 in
set_option maxHeartbeats 8000000 in
theorem implAcctAt_any (hi : Nat) (vh vc vs vl : Value) (a : AcctD) (now : Int) (w : World) (hg : Handle w) (hz : acctSmall 1048576 a) (hbig : acctBig a) (h : AcctR.rd hi w (aCells a vh vc vs vl) a) (hh : hi ≤ w.heap.size) :
    Calls Tryz.prog 29 #[.agg #[.string (aId a), .int .i64 (aLim a), .int .i64 (aPos a), .int .i64 (aMost a), .int .i64 (aSum a), vh, .int .i64 (aR a).1, .int .i64 (aR a).2.1, vc, vs, vl], .int .i64 now] w (acctOneI (acctAt a now) w) := by
  have HOK := Lib.hid (fun W (hW : Below w.heap.size w W) => implHasState_any hi vh vc vs vl a now W (hg.below hW (Nat.le_refl _)) hz hbig (Rep.below (R := AcctR) h hW hh) (Nat.le_trans hh hW.size))
  have HCP := Lib.hid (fun W (hW : Below w.heap.size w W) => implAcctSwept_any hi vh vc vs vl a now W (hg.below hW (Nat.le_refl _)) hz hbig (Rep.below (R := AcctR) h hW hh) (Nat.le_trans hh hW.size))
  obtain ⟨vh', vc', vs', vl', hcs, r1, r2, r3, r4⟩ := acct_rd h
  simp only [aCells, List.cons.injEq, and_true, true_and] at hcs
  obtain ⟨rfl, rfl, rfl, rfl⟩ := hcs
  have HRL := Lib.hid (fun W (hW : Below w.heap.size w W) => implRingRoll_any hi _ _ (aR a) now W (r2.below hW hh) (r3.below hW hh) (Nat.le_trans hh hW.size) hz.c hz.s)
  clear h hz hbig hg
  have HSW : Hid (acctAt a now = if (acctOk a && timeB now) = true then setR (acctSwept a now) (ringRoll (aR a) now) else acctSwept a now) := Lib.hid rfl
  generalize (acctOk a && timeB now) = ok at HOK HSW
  generalize acctAt a now = am at HSW ⊢
  generalize acctSwept a now = a1 at HSW HCP
  obtain ⟨rr, hrr⟩ : ∃ rr, rr = ringRoll (aR a) now := ⟨_, rfl⟩
  rw [← hrr] at HRL HSW
  clear hrr
  obtain ⟨sp2, hd2, cs2, ss2⟩ := rr
  obtain ⟨id, lim, pos, most, sum, hs, ⟨sp, hd, cs, ss⟩, sl⟩ := a
  obtain ⟨id1, lim1, pos1, most1, sum1, hs1, ⟨sp1, hd1, cs1, ss1⟩, sl1⟩ := a1
  simp only [aId, aLim, aPos, aMost, aSum, aH, aS] at r1 r2 r3 r4 HOK HCP HRL ⊢
  obtain ⟨AH, cH, rfl, -⟩ := Rep.slice_form r1
  obtain ⟨AC, cC, rfl, -⟩ := r2.form
  obtain ⟨AS, cS, rfl, -⟩ := r3.form
  obtain ⟨AL, cL, rfl, -⟩ := Rep.slice_form r4
  clear r1 r2 r3 r4
  go_enter Tryz.func29, Tryz.ntmps29
  go_upto_region 1 with fail
  obtain ⟨W, hW⟩ : ∃ W, W = (w.alloc (.cells #[.string id, .int .i64 lim, .int .i64 pos, .int .i64 most, .int .i64 sum, .slice AH hs.length cH, .int .i64 sp, .int .i64 hd, .slice AC cs.length cC, .slice AS ss.length cS, .slice AL sl.length cL] 50)).alloc (.cells #[.string ⟨#[]⟩, .int .i64 0, .int .i64 0, .int .i64 0, .int .i64 0, .slice none 0 0, .int .i64 0, .int .i64 0, .slice none 0 0, .slice none 0 0, .slice none 0 0] 50) := ⟨_, rfl⟩
  have b0 : bk W w.heap.size 50 [.string id, .int .i64 lim, .int .i64 pos, .int .i64 most, .int .i64 sum, .slice AH hs.length cH, .int .i64 sp, .int .i64 hd, .slice AC cs.length cC, .slice AS ss.length cS, .slice AL sl.length cL] := by rw [hW]; exact (bk.new w _ _).alloc _
  have b1 : bk W (w.heap.size + 1) 50 [.string ⟨#[]⟩, .int .i64 0, .int .i64 0, .int .i64 0, .int .i64 0, .slice none 0 0, .int .i64 0, .int .i64 0, .slice none 0 0, .slice none 0 0, .slice none 0 0] := by rw [hW]; simpa using bk.new (w.alloc _) 50 [.string ⟨#[]⟩, .int .i64 0, .int .i64 0, .int .i64 0, .int .i64 0, .slice none 0 0, .int .i64 0, .int .i64 0, .slice none 0 0, .slice none 0 0, .slice none 0 0]
  have HB0 : Hid (Below w.heap.size w W) := Lib.hid (by rw [hW]; exact ((Below.refl _ _).alloc (Nat.le_refl _) _).alloc (by simp) _)
  have y0 : w.heap.size + 2 ≤ W.heap.size := by rw [hW]; simp
  rw [← hW]
  clear hW
  obtain ⟨⟨p0, p1, p2, p3, p4, p5, p6, p7, p8, p9, p10⟩, -⟩ := b0.eleven
  have B0 := Lib.hid b0
  have B1 := Lib.hid b1
  clear b0 b1
  go_wp2_with fail
  refine (HCP.out W HB0.out).mono ?_
  rintro e w1 ⟨uh, uc, us, ul, rfl, hm1, hb1⟩
  obtain ⟨xh, xc, xs, xl, hcs, q1, q2, q3, q4⟩ := acct_rd hm1.mine.rd
  simp only [aCells, List.cons.injEq, and_true, true_and] at hcs
  obtain ⟨rfl, rfl, rfl, rfl⟩ := hcs
  obtain ⟨A1, c1, rfl, -⟩ := Rep.slice_form q1
  obtain ⟨A3, c3, rfl, -⟩ := q2.form
  obtain ⟨A4, c4, rfl, -⟩ := q3.form
  obtain ⟨A6, c6, rfl, -⟩ := Rep.slice_form q4
  have z1 := hb1.size
  have HM1 := Lib.hid hm1
  have HB1 : Hid (Below w.heap.size w w1) := Lib.hid (HB0.out.trans (hb1.mono (by omega)))
  have C0 := Lib.hid (B0.out.below hb1 (by omega))
  have C1 := Lib.hid (B1.out.below hb1 (by omega))
  clear hm1 hb1 HB0 HCP B0 B1 q1 q2 q3 q4 p0 p1 p2 p3 p4 p5 p6 p7 p8 p9 p10
  simp only [aH, aS, aId, aLim, aPos, aMost, aSum] at HM1 ⊢
  obtain ⟨⟨p0, p1, p2, p3, p4, p5, p6, p7, p8, p9, p10⟩, -⟩ := C0.out.eleven
  go_upto_region 2 with fail
  obtain ⟨W2, hW2⟩ : ∃ W2, W2 = w1.alloc (.cells #[.string id1, .int .i64 lim1, .int .i64 pos1, .int .i64 most1, .int .i64 sum1, .slice A1 hs1.length c1, .int .i64 sp1, .int .i64 hd1, .slice A3 cs1.length c3, .slice A4 ss1.length c4, .slice A6 sl1.length c6] 50) := ⟨_, rfl⟩
  have b2 : bk W2 w1.heap.size 50 [.string id1, .int .i64 lim1, .int .i64 pos1, .int .i64 most1, .int .i64 sum1, .slice A1 hs1.length c1, .int .i64 sp1, .int .i64 hd1, .slice A3 cs1.length c3, .slice A4 ss1.length c4, .slice A6 sl1.length c6] := by rw [hW2]; exact bk.new w1 _ _
  have hb2 : Below w1.heap.size w1 W2 := by rw [hW2]; exact (Below.refl _ _).alloc (Nat.le_refl _) _
  rw [← hW2]
  clear hW2
  have z2 := b2.lt
  have B0 := Lib.hid (C0.out.below hb2 (by omega))
  have B1 := Lib.hid (C1.out.below hb2 (by omega))
  have B2 := Lib.hid b2
  have HM2 := Lib.hid (HM1.out.below hb2 (Nat.le_refl _))
  have HB2 : Hid (Below w.heap.size w W2) := Lib.hid (HB1.out.trans (hb2.mono (by omega)))
  clear hb2 b2 C0 C1 HM1 HB1 p0 p1 p2 p3 p4 p5 p6 p7 p8 p9 p10
  obtain ⟨⟨p0, p1, p2, p3, p4, p5, p6, p7, p8, p9, p10⟩, -⟩ := B0.out.eleven
  go_wp2_with fail
  refine (HOK.out W2 HB2.out).mono ?_
  rintro e w3 ⟨rfl, hb3⟩
  have z3 := hb3.size
  have C0 := Lib.hid (B0.out.below hb3 (by omega))
  have C1 := Lib.hid (B1.out.below hb3 (by omega))
  have C2 := Lib.hid (B2.out.below hb3 (by omega))
  have HM3 := Lib.hid (HM2.out.below hb3 (by omega))
  have HB3 : Hid (Below w.heap.size w w3) := Lib.hid (HB2.out.trans (hb3.mono (by omega)))
  clear hb3 B0 B1 B2 HM2 HB2 HOK p0 p1 p2 p3 p4 p5 p6 p7 p8 p9 p10
  cases ok
  · have HAM : Hid (am = (id1, lim1, pos1, most1, sum1, hs1, (sp1, hd1, cs1, ss1), sl1)) := Lib.hid (by rw [HSW.out]; rfl)
    clear HSW HRL
    have b1 := C1.out
    have b2 := C2.out
    clear C0 C1 C2
    obtain ⟨⟨p0, p1, p2, p3, p4, p5, p6, p7, p8, p9, p10⟩, -⟩ := b2.eleven
    obtain ⟨⟨r0, r1, r2, r3, r4, r5, r6, r7, r8, r9, r10⟩, g0, g1, g2, g3, g4, g5, g6, g7, g8, g9, g10⟩ := b1.eleven
    clear b1 b2
    go_wp2
    refine bodyPost_ret (v := .agg #[.string id1, .int .i64 lim1, .int .i64 pos1, .int .i64 most1, .int .i64 sum1, .slice A1 hs1.length c1, .int .i64 sp1, .int .i64 hd1, .slice A3 cs1.length c3, .slice A4 ss1.length c4, .slice A6 sl1.length c6]) (by simp [results, Tryz.results29, go_sem, r0, r1, r2, r3, r4, r5, r6, r7, r8, r9, r10]) rfl ?_
    have ht := (((((((((((Turned.refl w.heap.size (w.heap.size + 2) w3).set (b := w.heap.size + 1) 0 (.string id1) (by omega) (by omega)).set (b := w.heap.size + 1) 1 (.int .i64 lim1) (by omega) (by omega)).set (b := w.heap.size + 1) 2 (.int .i64 pos1) (by omega) (by omega)).set (b := w.heap.size + 1) 3 (.int .i64 most1) (by omega) (by omega)).set (b := w.heap.size + 1) 4 (.int .i64 sum1) (by omega) (by omega)).set (b := w.heap.size + 1) 5 (.slice A1 hs1.length c1) (by omega) (by omega)).set (b := w.heap.size + 1) 6 (.int .i64 sp1) (by omega) (by omega)).set (b := w.heap.size + 1) 7 (.int .i64 hd1) (by omega) (by omega)).set (b := w.heap.size + 1) 8 (.slice A3 cs1.length c3) (by omega) (by omega)).set (b := w.heap.size + 1) 9 (.slice A4 ss1.length c4) (by omega) (by omega)).set (b := w.heap.size + 1) 10 (.slice A6 sl1.length c6) (by omega) (by omega)
    have hsz := ht.size
    rw [HAM.out]
    exact ⟨_, _, _, _, rfl, (HM3.out.turned ht (.inr (by omega)) (by omega)).mono (by omega) (by omega), HB3.out.trans (ht.below (by omega) (by omega))⟩
  · have HAM : Hid (am = (id1, lim1, pos1, most1, sum1, hs1, (sp2, hd2, cs2, ss2), sl1)) := Lib.hid (by rw [HSW.out]; rfl)
    clear HSW
    obtain ⟨⟨p0, p1, p2, p3, p4, p5, p6, p7, p8, p9, p10⟩, -⟩ := C0.out.eleven
    go_wp2_with fail
    refine (HRL.out w3 HB3.out).mono ?_
    rintro e w5 ⟨uc, us, rfl, hu, hb5⟩
    obtain ⟨xc, xs, hcs, y2, y3⟩ := ring_rd hu.rd
    simp only [List.cons.injEq, and_true, true_and] at hcs
    obtain ⟨rfl, rfl⟩ := hcs
    obtain ⟨AN, cN, rfl, -⟩ := y2.form
    obtain ⟨AM, cM, rfl, -⟩ := y3.form
    simp only at hu ⊢
    clear y2 y3
    have z5 := hb5.size
    have HM5 := Lib.hid (HM3.out.below hb5 (by omega))
    have HU5 := Lib.hid hu
    have HB5 : Hid (Below w.heap.size w w5) := Lib.hid (HB3.out.trans (hb5.mono (by omega)))
    have D1 := Lib.hid (C1.out.below hb5 (by omega))
    have D2 := Lib.hid (C2.out.below hb5 (by omega))
    clear hu hb5 HM3 HB3 HRL C0 C1 C2 p0 p1 p2 p3 p4 p5 p6 p7 p8 p9 p10
    obtain ⟨⟨p0, p1, p2, p3, p4, p5, p6, p7, p8, p9, p10⟩, f0, f1, f2, f3, f4, f5, f6, f7, f8, f9, f10⟩ := D2.out.eleven
    have hq := ((((D2.out.set 6 (.int .i64 sp2)).set 7 (.int .i64 hd2)).set 8 (.slice AN cs2.length cN)).set 9 (.slice AM ss2.length cM))
    have ht5 := ((((Turned.refl w1.heap.size (w1.heap.size + 1) w5).set (b := w1.heap.size) 6 (.int .i64 sp2) (by omega) (by omega)).set (b := w1.heap.size) 7 (.int .i64 hd2) (by omega) (by omega)).set (b := w1.heap.size) 8 (.slice AN cs2.length cN) (by omega) (by omega)).set (b := w1.heap.size) 9 (.slice AM ss2.length cM) (by omega) (by omega)
    go_upto_region 4 with fail
    obtain ⟨W6, hW6⟩ : ∃ W6, W6 = ((((w5.setCell ⟨w1.heap.size, 6, none⟩ (.int .i64 sp2)).setCell ⟨w1.heap.size, 7, none⟩ (.int .i64 hd2)).setCell ⟨w1.heap.size, 8, none⟩ (.slice AN cs2.length cN)).setCell ⟨w1.heap.size, 9, none⟩ (.slice AM ss2.length cM)) := ⟨_, rfl⟩
    rw [← hW6] at hq ht5 ⊢
    clear hW6
    have z6 := ht5.size
    have HM6 := Lib.hid (swapRI (r := (sp2, hd2, cs2, ss2)) (p0 := W.heap.size) (p1 := w1.heap.size) (p2 := W6.heap.size) (HM5.out.turned ht5 (.inl (Nat.le_refl _)) (by omega)) ((HU5.out.turned ht5 (.inr (by omega)) (Nat.le_refl _)).mono (lo' := w1.heap.size) (hi' := W6.heap.size) (by omega) (by omega)) (by omega) (by omega))
    have HB6 := Lib.hid (HB5.out.trans (ht5.below (B := w.heap.size) (by omega) (by omega)))
    have b1 := D1.out.under ht5 (by omega)
    have b2 : bk W6 w1.heap.size 50 [.string id1, .int .i64 lim1, .int .i64 pos1, .int .i64 most1, .int .i64 sum1, .slice A1 hs1.length c1, .int .i64 sp2, .int .i64 hd2, .slice AN cs2.length cN, .slice AM ss2.length cM, .slice A6 sl1.length c6] := hq
    clear hq ht5 HM5 HU5 HB5 D1 D2 p0 p1 p2 p3 p4 p5 p6 p7 p8 p9 p10 f0 f1 f2 f3 f4 f5 f6 f7 f8 f9 f10
    simp only [setR, aId, aLim, aPos, aMost, aSum, aH, aS] at HM6
    obtain ⟨⟨p0, p1, p2, p3, p4, p5, p6, p7, p8, p9, p10⟩, -⟩ := b2.eleven
    obtain ⟨⟨r0, r1, r2, r3, r4, r5, r6, r7, r8, r9, r10⟩, g0, g1, g2, g3, g4, g5, g6, g7, g8, g9, g10⟩ := b1.eleven
    clear b1 b2
    go_wp2
    refine bodyPost_ret (v := .agg #[.string id1, .int .i64 lim1, .int .i64 pos1, .int .i64 most1, .int .i64 sum1, .slice A1 hs1.length c1, .int .i64 sp2, .int .i64 hd2, .slice AN cs2.length cN, .slice AM ss2.length cM, .slice A6 sl1.length c6]) (by simp [results, Tryz.results29, go_sem, r0, r1, r2, r3, r4, r5, r6, r7, r8, r9, r10]) rfl ?_
    have ht := (((((((((((Turned.refl w.heap.size (w.heap.size + 2) W6).set (b := w.heap.size + 1) 0 (.string id1) (by omega) (by omega)).set (b := w.heap.size + 1) 1 (.int .i64 lim1) (by omega) (by omega)).set (b := w.heap.size + 1) 2 (.int .i64 pos1) (by omega) (by omega)).set (b := w.heap.size + 1) 3 (.int .i64 most1) (by omega) (by omega)).set (b := w.heap.size + 1) 4 (.int .i64 sum1) (by omega) (by omega)).set (b := w.heap.size + 1) 5 (.slice A1 hs1.length c1) (by omega) (by omega)).set (b := w.heap.size + 1) 6 (.int .i64 sp2) (by omega) (by omega)).set (b := w.heap.size + 1) 7 (.int .i64 hd2) (by omega) (by omega)).set (b := w.heap.size + 1) 8 (.slice AN cs2.length cN) (by omega) (by omega)).set (b := w.heap.size + 1) 9 (.slice AM ss2.length cM) (by omega) (by omega)).set (b := w.heap.size + 1) 10 (.slice A6 sl1.length c6) (by omega) (by omega)
    have hsz := ht.size
    rw [HAM.out]
    exact ⟨_, _, _, _, rfl, (HM6.out.turned ht (.inr (by omega)) (by omega)).mono (by omega) (by omega), HB6.out.trans (ht.below (by omega) (by omega))⟩
end Go.Proofs.YthnimmagaocipaaGreatDoor
set_option linter.unusedVariables false
namespace Go.Proofs.YthnimmagaocipaaGreatDoor
open Go.ChangeShapes Go.WideShapes Go.ChangeAt Go.RowKit

abbrev aAgg (x : AcctD) (vh vc vs vl : Value) : Value := .agg #[.string (aId x), .int .i64 (aLim x), .int .i64 (aPos x), .int .i64 (aMost x), .int .i64 (aSum x), vh, .int .i64 (aR x).1, .int .i64 (aR x).2.1, vc, vs, vl]
set_option maxRecDepth 100000 in
set_option maxHeartbeats 16000000 in
theorem eachAcct_any (g : Nat) (lb : Array Value) (f : AcctD → AcctD) (hi : Nat) (v : Value) (l : BookD) (w : World) (hn : l.length ≤ 1048576) (h : AcctsR.rd hi w [v] l) (hh : hi ≤ w.heap.size) (eg : ∀ args w, (callFunc g args).run Tryz.prog w = .ok (.enter g args) w)
    (hf : ∀ x ∈ l, ∀ V vh vc vs vl, Below w.heap.size w V → AcctR.rd hi V (aCells x vh vc vs vl) x → Calls Tryz.prog g (#[aAgg x vh vc vs vl] ++ lb) V (acctOneI (f x) V)) :
    Calls Tryz.prog 27 #[.agg #[v], .func (.func g) #[] lb] w (bookOneI (l.map f) w) := by
  obtain ⟨A0, c0, rfl, hc0, hrd⟩ := accts_rd h
  have HR := Lib.hid hrd
  have HF := Lib.hid hf
  have HRX : Hid (∀ V u, Below w.heap.size w V → AcctsIv.I (w.heap.size + 2) V.heap.size V [u] (l.map f) → bookOneI (l.map f) w (.returned (.agg #[u])) V) := Lib.hid fun V u hV hm => ⟨u, rfl, AcctsIv.mono hm (by omega) (Nat.le_refl _), hV⟩
  have HTL : Hid (∀ i, l.length ≤ i → (l.map f).take i = l.map f) := Lib.hid fun i hi => List.take_of_length_le (by simpa using hi)
  have HTN : Hid (∀ i x, l[i]? = some x → (l.map f).take (i + 1) = (l.map f).take i ++ [f x]) := Lib.hid fun i x hx => by
    have hi := (List.getElem?_eq_some_iff.1 hx).1
    have hx' := (List.getElem?_eq_some_iff.1 hx).2
    rw [List.take_succ_eq_append_getElem (by simpa using hi)]
    congr 2
    all_goals simp [hx']
  generalize l.map f = R at HRX HTL HTN ⊢
  clear hrd h hf
  go_enter Tryz.func27, Tryz.ntmps27
  go_upto_region 2 with fail
  obtain ⟨W, hW⟩ : ∃ W, W = (w.alloc (.cells #[.slice A0 l.length c0] 29)).alloc (.cells #[.slice none 0 0] 29) := ⟨_, rfl⟩
  have b0 : bk W w.heap.size 29 [.slice A0 l.length c0] := by rw [hW]; exact (bk.new w _ _).alloc _
  have b1 : bk W (w.heap.size + 1) 29 [.slice none 0 0] := by rw [hW]; simpa using bk.new (w.alloc _) _ _
  have HB0 : Hid (Below w.heap.size w W) := Lib.hid (by rw [hW]; exact ((Below.refl _ _).alloc (Nat.le_refl _) _).alloc (by simp) _)
  have z0 : W.heap.size = w.heap.size + 2 := by rw [hW]; simp
  rw [← hW]
  clear hW
  have q0 := b0.cell 0
  simp only [List.getElem?_cons_zero] at q0
  have B1 := Lib.hid b1
  clear b0 b1
  go_wp2
  go_loopw [5, 11] (fun ov iv wr => ∃ (i : Nat) (A : Option Addr) (c : Nat) (ps : List AcctV) (p q : Nat → Nat), i ≤ l.length ∧ ov = .slice A ps.length c ∧ iv = .int .i64 i ∧ ps.length ≤ i ∧ Hid (ps.map aDat = R.take i) ∧ Hid (bk wr (w.heap.size + 1) 29 [.slice none 0 0]) ∧ Hid (owE 50 11 aEnc (w.heap.size + 2) wr (.slice A ps.length c) ps) ∧ Hid (parts AcctIv aEnc aDat wr (Value.slice A ps.length c).ownBlock (w.heap.size + 2) ps p q) ∧ Hid (Below w.heap.size w wr) ∧ w.heap.size + 2 ≤ wr.heap.size) (fun _ iv _ => l.length - (intOf iv).toNat)
  case atStart => exact ⟨0, none, 0, [], _, _, Nat.zero_le _, rfl, rfl, Nat.zero_le _, Lib.hid rfl, B1, Lib.hid (owE_none _ _ _ _ _), Lib.hid (parts.nil _ _ _ _ _ _), HB0, by omega⟩
  case round =>
    obtain ⟨i, A, c, ps, p, q, hil, rfl, rfl, hpl, HPS, HK1, HO, HP, HB, hz⟩ := hrel
    by_cases hin : i < l.length
    · obtain ⟨x, hx⟩ : ∃ x, l[i]? = some x := ⟨_, List.getElem?_eq_getElem hin⟩
      obtain ⟨b, off, AH, cH, AC, cC, AS, cS, AL, cL, rfl, hbl, hat, hrd⟩ := HR.out i x hx
      have HPN : Hid (R.take (i + 1) = R.take i ++ [f x]) := Lib.hid (HTN.out i x hx)
      have hat := hat.below HB.out (show b < w.heap.size by omega)
      obtain ⟨d0, d1, d2, d3, d4, d5, d6, d7, d8, d9, d10⟩ := hat.eleven
      have HCP := Lib.hid (fun V (hV : Below wr.heap.size wr V) => HF.out x (List.mem_of_getElem? hx) V _ _ _ _ (HB.out.trans (hV.mono (by omega))) (Rep.below (R := AcctR) hrd (HB.out.trans (hV.mono (by omega))) hh))
      clear hrd hat hx
      have g1 : (i : Int) < (l.length : Int) := by omega
      have g2 : 0 ≤ (i : Int) := by omega
      generalize f x = y at HCP HPN
      go_upto_region 5 with fail
      obtain ⟨W3, hW3⟩ : ∃ W3, W3 = wr.alloc (.cells #[.string (aId x), .int .i64 (aLim x), .int .i64 (aPos x), .int .i64 (aMost x), .int .i64 (aSum x), .slice AH (aH x).length cH, .int .i64 (aR x).1, .int .i64 (aR x).2.1, .slice AC (aR x).2.2.1.length cC, .slice AS (aR x).2.2.2.length cS, .slice AL (aS x).length cL] 50) := ⟨_, rfl⟩
      have b3 : bk W3 wr.heap.size 50 [.string (aId x), .int .i64 (aLim x), .int .i64 (aPos x), .int .i64 (aMost x), .int .i64 (aSum x), .slice AH (aH x).length cH, .int .i64 (aR x).1, .int .i64 (aR x).2.1, .slice AC (aR x).2.2.1.length cC, .slice AS (aR x).2.2.2.length cS, .slice AL (aS x).length cL] := by rw [hW3]; exact bk.new wr _ _
      have hb3 : Below wr.heap.size wr W3 := by rw [hW3]; exact (Below.refl _ _).alloc (Nat.le_refl _) _
      rw [← hW3]
      clear hW3 d0 d1 d2 d3 d4 d5 d6 d7 d8 d9 d10
      have z3 := b3.lt
      have HB3 := Lib.hid hb3
      obtain ⟨⟨p0, p1, p2, p3, p4, p5, p6, p7, p8, p9, p10⟩, -⟩ := b3.eleven
      clear b3 hb3
      go_wp2_with fail
      refine (HCP.out _ HB3.out).mono ?_
      rintro e w5 ⟨vh5, vc5, vs5, vl5, rfl, hm5, hb5⟩
      obtain ⟨BH, dH, BC, dC, BS, dS, BL, dL, hf5⟩ := acct_forms hm5.mine.rd
      simp only [aCells, List.cons.injEq, and_true, true_and] at hf5
      obtain ⟨rfl, rfl, rfl, rfl⟩ := hf5
      have HB5 := Lib.hid hb5
      have HM5 := Lib.hid hm5
      have z5 := hb5.size
      clear hb5 hm5 p0 p1 p2 p3 p4 p5 p6 p7 p8 p9 p10 HCP
      go_wp2_with (at_builtin; refine app_elem aEnc 11 (fun _ => rfl) (by decide) aEnc_one 27 50 #[.string ⟨#[]⟩, .int .i64 0, .int .i64 0, .int .i64 0, .int .i64 0, .slice none 0 0, .int .i64 0, .int .i64 0, .slice none 0 0, .slice none 0 0, .slice none 0 0] 160 Tryz.underlying27 infoAcct rfl _ _ rfl (by rfl) (w.heap.size + 2) w5 _ ps ((y, (BH, dH), (BC, dC), (BS, dS), (BL, dL)) : AcctV) _ _ (by rfl) (by rfl) (by rfl) (by simp) (HO.out.below (HB3.out.trans (HB5.out.mono (by omega))) (Nat.le_refl _)) (by unfold maxLen; omega) (by omega) (by first | omega | (simp; omega)) ?_)
      intro A9 c9 w9 hown9 hc9 hg9 hl9
      obtain ⟨pp9, qq9, hp9⟩ := grow_step (y := ((y, (BH, dH), (BC, dC), (BS, dS), (BL, dL)) : AcctV)) HO.out HP.out (by omega) (HB3.out.trans (HB5.out.mono (by omega))) (show AcctIv.I W3.heap.size w5.heap.size w5 _ _ from ⟨_, _, _, _, rfl, HM5.out⟩) (Nat.le_of_lt z3) hg9 hl9
      have hlt9 : w5.heap.size + 1 ≤ w9.heap.size := by have := hg9.size; simpa using this
      have HP9 := Lib.hid hp9
      have HO9 := Lib.hid hown9
      have HPR : Hid ((ps ++ [((y, (BH, dH), (BC, dC), (BS, dS), (BL, dL)) : AcctV)]).map aDat = R.take (i + 1)) := Lib.hid (by rw [HPN.out, ← HPS.out, List.map_append]; rfl)
      have HK19 : Hid (bk w9 (w.heap.size + 1) 29 [.slice none 0 0]) := Lib.hid ((((HK1.out.below (HB3.out.trans (HB5.out.mono (by omega))) (by omega)).alloc _).grown hg9 (fun e => by have := (HO.out.lt _ e).1; omega)))
      have HB9 : Hid (Below w.heap.size w w9) := Lib.hid (((HB.out.trans ((HB3.out.trans (HB5.out.mono (by omega))).mono (by omega))).alloc (by omega) _).grown hg9 (by simp; omega) (fun g hg' => by have := (HO.out.lt g hg').1; omega))
      clear hown9 hg9 hl9 hp9 HM5 HB5
      go_wp2
      go_roundw
      case rel => exact ⟨i + 1, A9, c9, ps ++ [((y, (BH, dH), (BC, dC), (BS, dS), (BL, dL)) : AcctV)], pp9, qq9, by omega, by simp, by go_num, by simp; omega, HPR, HK19, Lib.hid (by simpa using HO9.out), HP9, HB9, by omega⟩
      case measure => simp [intOf] <;> omega
    · obtain rfl : i = l.length := by omega
      have HPR : Hid (ps.map aDat = R) := Lib.hid (by rw [← HTL.out l.length (Nat.le_refl _)]; exact HPS.out)
      have q1 := HK1.out.frozen 0
      have q2 := HK1.out.cell 0
      simp only [List.getElem?_cons_zero] at q2
      go_wp2
      refine bodyPost_ret (v := .agg #[.slice A ps.length c]) (by simp [results, Tryz.results27, go_sem, q2]) rfl ?_
      have ht := (Turned.refl w.heap.size (w.heap.size + 2) wr).set (b := w.heap.size + 1) 0 (.slice A ps.length c) (by omega) (by omega)
      have hm := HP.out.slice HO.out (fun _ => rfl) noAcctV
      rw [HPR.out] at hm
      exact HRX.out _ _ (HB.out.trans (ht.below (by omega) (by omega))) (AcctsIv.mono (AcctsIv.turned hm ht (.inr (by omega)) (Nat.le_refl _)) (Nat.le_refl _) ht.size)
end Go.Proofs.YthnimmagaocipaaGreatDoor
set_option linter.unusedVariables false
namespace Go.Proofs.YthnimmagaocipaaGreatDoor
open Go.ChangeShapes Go.WideShapes Go.ChangeAt Go.RowKit

/-- what stands before account i -/
def idBefore (l : BookD) (i : Nat) : ByteArray := if i = 0 then ⟨#[]⟩ else aId (l.getD (i - 1) nilAcct)
set_option maxRecDepth 100000 in
theorem bytesLess_nil {l : List UInt8} (h : l ≠ []) : Op.bytesLess [] l = true := by
  cases l with
  | nil => exact absurd rfl h
  | cons a l => rfl
set_option maxRecDepth 100000 in
theorem bytesLess_leq : ∀ a b : List UInt8, (Op.bytesLess a b || a == b) = !(Op.bytesLess b a)
  | [], [] => rfl
  | [], b :: y => rfl
  | a :: x, [] => rfl
  | a :: x, b :: y => by
    have ih := bytesLess_leq x y
    have e1 : ((a :: x) == (b :: y)) = (a == b && x == y) := rfl
    rw [e1]
    unfold Op.bytesLess
    by_cases h1 : a < b
    · have h2 : ¬ b < a := by rw [UInt8.lt_iff_toNat_lt] at h1 ⊢; omega
      have h3 : (a == b) = false := beq_eq_false_iff_ne.2 (fun e => by subst e; exact UInt8.lt_irrefl _ h1)
      have h4 : (b == a) = false := beq_eq_false_iff_ne.2 (fun e => by subst e; exact UInt8.lt_irrefl _ h1)
      simp [h1, h2, h3, h4]
    · by_cases h2 : b < a
      · have h3 : (a == b) = false := beq_eq_false_iff_ne.2 (fun e => by subst e; exact UInt8.lt_irrefl _ h2)
        simp [h1, h2, h3]
      · have h3 : a = b := by
          apply UInt8.toNat_inj.1
          rw [UInt8.lt_iff_toNat_lt] at h1 h2
          omega
        subst h3
        simpa [h1] using ih
set_option maxRecDepth 100000 in
theorem acctOk_id {x : AcctD} (h : acctOk x = true) : (aId x).toList ≠ [] := by
  unfold acctOk acctHead at h
  simp only [Bool.and_eq_true] at h
  have h1 := h.1.1
  unfold acctIdB luOk at h1
  simp only [Bool.and_eq_true, decide_eq_true_eq] at h1
  have h2 := h1.2.1.1
  intro e
  have : (aId x).toList.length = (aId x).size := by rw [ByteArray.toList_eq]; simp
  rw [e] at this
  simp at this
  omega
set_option maxRecDepth 100000 in
theorem atOk_before {l : BookD} {i : Nat} {x : AcctD} (hx : l[i]? = some x) : bookAtOk l i = (acctOk x && Op.bytesLess (idBefore l i).toList (aId x).toList) := by
  unfold bookAtOk idBefore strLt
  rw [getA_of hx]
  by_cases h : i = 0
  · rw [if_pos h, decide_eq_true h, Bool.true_or]
    cases hk : acctOk x
    · rfl
    · rw [show (⟨#[]⟩ : ByteArray).toList = [] from by rw [ByteArray.toList_eq], bytesLess_nil (acctOk_id hk)]
  · rw [if_neg h, decide_eq_false h, Bool.false_or]
set_option maxRecDepth 100000 in
theorem idBefore_next {l : BookD} {i : Nat} {x : AcctD} (hx : l[i]? = some x) : idBefore l (i + 1) = aId x := by
  unfold idBefore
  rw [if_neg (by omega), Nat.add_sub_cancel, getA_of hx]
set_option maxRecDepth 100000 in
theorem book_long {l : BookD} (h : 6 < l.length) : bookOk l = false := by
  unfold bookOk
  rw [decide_eq_false (by omega), Bool.and_false]
set_option maxRecDepth 100000 in
set_option maxHeartbeats 16000000 in
theorem implBookOk_any (hi : Nat) (v : Value) (l : BookD) (w : World) (hg : Handle w) (hs : bookSmall 1048576 l) (hbig : ∀ x ∈ l, acctBig x) (h : AcctsR.rd hi w [v] l) (hh : hi ≤ w.heap.size) :
    Calls Tryz.prog 9 #[.agg #[v]] w fun e w' => e = .returned (.bool (bookOk l)) ∧ Below w.heap.size w w' := by
  obtain ⟨A, c, rfl, hc, h⟩ := accts_rd h
  obtain ⟨hn, hs⟩ := hs
  have HR := Lib.hid h
  have HS := Lib.hid hs
  have HSB := Lib.hid hbig
  have HG := Lib.hid hg
  clear h hs hbig hg
  have bb := bk.new w 29 [.slice A l.length c]
  have hbb : Below w.heap.size w (w.alloc (.cells #[.slice A l.length c] 29)) := (Below.refl _ _).alloc (Nat.le_refl _) _
  have hzz : (w.alloc (.cells #[.slice A l.length c] 29)).heap.size = w.heap.size + 1 := by simp
  by_cases h6 : 6 < l.length
  · have HV := Lib.hid (book_long h6)
    have h6' : (6 : Int) < (l.length : Int) := by omega
    have HBB := Lib.hid hbb
    clear bb hbb
    go_enter Tryz.func9, Tryz.ntmps9
    go_wp2
    go_ret
    exact ⟨ret_bool HV.out.symm, HBB.out⟩
  have h6' : ¬ (6 : Int) < (l.length : Int) := by omega
  have HBN : Hid (idBefore l 0 = ⟨#[]⟩) := Lib.hid rfl
  go_enter Tryz.func9, Tryz.ntmps9
  go_upto_region 1 with fail
  obtain ⟨W0, hW0⟩ : ∃ W0, W0 = w.alloc (.cells #[.slice A l.length c] 29) := ⟨_, rfl⟩
  rw [← hW0] at bb hbb hzz ⊢
  clear hW0
  have qb0 := bb.cell 0
  simp only [List.getElem?_cons_zero] at qb0
  have HBB := Lib.hid hbb
  clear bb hbb
  go_wp2
  go_loopw [3, 13] (fun bv iv wr => ∃ i : Nat, i ≤ l.length ∧ iv = .int .i64 i ∧ Hid (bv = .string (idBefore l i)) ∧ Hid ((List.range i).all (bookAtOk l) = true) ∧ Hid (Below W0.heap.size W0 wr) ∧ W0.heap.size ≤ wr.heap.size) (fun _ iv _ => l.length - (intOf iv).toNat)
  case atStart => exact ⟨0, Nat.zero_le _, rfl, Lib.hid (by rw [HBN.out]), Lib.hid rfl, Lib.hid (Below.refl _ _), Nat.le_refl _⟩
  case round =>
    obtain ⟨i, hi', rfl, HBV, HN, HBr, hz⟩ := hrel
    have HB : Hid (Below w.heap.size w wr) := Lib.hid (HBB.out.trans (HBr.out.mono (by omega)))
    by_cases hin : i < l.length
    · obtain ⟨x, hx⟩ : ∃ x, l[i]? = some x := ⟨_, List.getElem?_eq_getElem hin⟩
      have HXD := Lib.hid (atOk_before hx)
      have HNX := Lib.hid (idBefore_next hx)
      obtain ⟨b, off, AH, cH, AC, cC, AS, cS, AL, cL, rfl, hbl, hat, hrd⟩ := HR.out i x hx
      have hat := hat.below HB.out (show b < w.heap.size by omega)
      obtain ⟨d0, d1, d2, d3, d4, d5, d6, d7, d8, d9, d10⟩ := hat.eleven
      have HOK0 := Lib.hid (fun W (hW : Below wr.heap.size wr W) => implAcctOk_any hi _ _ _ _ x W (HG.out.below (HB.out.trans (hW.mono (by omega))) (Nat.le_refl _)) (HS.out x (List.mem_of_getElem? hx)) (HSB.out x (List.mem_of_getElem? hx)) (Rep.below (R := AcctR) hrd (HB.out.trans (hW.mono (by omega))) hh) (by have := hW.size; omega))
      have g1 : (i : Int) < (l.length : Int) := by omega
      have g2 : 0 ≤ (i : Int) := by omega
      clear hx hat hrd
      obtain ⟨idb, hidb⟩ : ∃ s, s = idBefore l i := ⟨_, rfl⟩
      rw [← hidb] at HBV HXD
      have hbv := HBV.out
      subst hbv
      clear hidb HBV
      go_upto_region 7 with fail
      obtain ⟨W3, hW3⟩ : ∃ W3, W3 = wr.alloc (.cells #[.string (aId x), .int .i64 (aLim x), .int .i64 (aPos x), .int .i64 (aMost x), .int .i64 (aSum x), .slice AH (aH x).length cH, .int .i64 (aR x).1, .int .i64 (aR x).2.1, .slice AC (aR x).2.2.1.length cC, .slice AS (aR x).2.2.2.length cS, .slice AL (aS x).length cL] 50) := ⟨_, rfl⟩
      have b3 : bk W3 wr.heap.size 50 [.string (aId x), .int .i64 (aLim x), .int .i64 (aPos x), .int .i64 (aMost x), .int .i64 (aSum x), .slice AH (aH x).length cH, .int .i64 (aR x).1, .int .i64 (aR x).2.1, .slice AC (aR x).2.2.1.length cC, .slice AS (aR x).2.2.2.length cS, .slice AL (aS x).length cL] := by rw [hW3]; exact bk.new wr _ _
      have hb3 : Below wr.heap.size wr W3 := by rw [hW3]; exact (Below.refl _ _).alloc (Nat.le_refl _) _
      rw [← hW3]
      clear hW3
      have z3 := b3.lt
      have B3 := Lib.hid b3
      have HB4 : Hid (Below W0.heap.size W0 W3) := Lib.hid (HBr.out.trans (hb3.mono (by omega)))
      have HOK := Lib.hid (HOK0.out W3 hb3)
      obtain ⟨⟨p0, p1, p2, p3, p4, p5, p6, p7, p8, p9, p10⟩, -⟩ := b3.eleven
      clear b3 hb3 d0 d1 d2 d3 d4 d5 d6 d7 d8 d9 d10 HOK0
      obtain ⟨ok, hok⟩ : ∃ ok, ok = bookAtOk l i := ⟨_, rfl⟩
      rw [← hok] at HXD
      have HOKI : Hid (bookAtOk l i = ok) := Lib.hid hok.symm
      clear hok
      generalize acctOk x = hk at HOK HXD
      go_wp2_with fail
      refine HOK.out.mono ?_
      rintro e w4 ⟨rfl, hb4⟩
      have HBD : Hid (Below W0.heap.size W0 w4) := Lib.hid (HB4.out.trans (hb4.mono (by have := HB4.out.size; omega)))
      have zc : W0.heap.size ≤ w4.heap.size := HBD.out.size
      have HBC : Hid (Below w.heap.size w w4) := Lib.hid (HBB.out.trans (HBD.out.mono (by omega)))
      have b4 := B3.out.below hb4 z3
      obtain ⟨⟨q0, -⟩, -⟩ := b4.eleven
      clear hb4 b4 p0 p1 p2 p3 p4 p5 p6 p7 p8 p9 p10
      cases hk
      · have HV : Hid (bookOk l = false) := Lib.hid (book_ok_not hin (by rw [HOKI.out, HXD.out]; rfl))
        go_wp2
        go_ret
        exact ⟨ret_bool HV.out.symm, HBC.out⟩
      rw [Bool.true_and] at HXD
      have hq := bytesLess_leq (aId x).toList idb.toList
      cases hbl2 : Op.bytesLess idb.toList (aId x).toList
      · have HV : Hid (bookOk l = false) := Lib.hid (book_ok_not hin (by rw [HOKI.out, HXD.out, hbl2]))
        rw [hbl2] at hq
        cases h1 : Op.bytesLess (aId x).toList idb.toList
        · have h2 : ((aId x).toList == idb.toList) = true := by simpa [h1] using hq
          clear hq
          go_wp2
          go_ret
          exact ⟨ret_bool HV.out.symm, HBC.out⟩
        · clear hq
          go_wp2
          go_ret
          exact ⟨ret_bool HV.out.symm, HBC.out⟩
      · have HN2 := Lib.hid (book_snoc HN.out (by rw [HOKI.out, HXD.out, hbl2]))
        rw [hbl2] at hq
        have h1 : Op.bytesLess (aId x).toList idb.toList = false := by simp at hq; simp [hq.1]
        have h2 : ((aId x).toList == idb.toList) = false := by simp at hq; simpa using hq.2
        have h3 : ¬ (aId x).toList = idb.toList := by simpa using h2
        clear hq
        go_wp2
        go_roundw
        case rel => exact ⟨i + 1, by omega, by go_num, Lib.hid (by rw [HNX.out]), HN2, HBD, zc⟩
        case measure => simp [intOf] <;> omega
    · obtain rfl : i = l.length := by omega
      have HV : Hid (bookOk l = true) := Lib.hid (by rw [book_ok_end HN.out]; exact decide_eq_true (by omega))
      go_wp2
      go_ret
      exact ⟨ret_bool HV.out.symm, HB.out⟩
set_option maxRecDepth 100000 in
theorem Turned.of_sets11 (V : World) (b lo hi : Nat) (h1 : lo ≤ b) (h2 : b < hi) (a0 a1 a2 a3 a4 a5 a6 a7 a8 a9 a10 : Value) : Turned lo hi V (((((((((((V.setCell ⟨b, 0, none⟩ a0).setCell ⟨b, 1, none⟩ a1).setCell ⟨b, 2, none⟩ a2).setCell ⟨b, 3, none⟩ a3).setCell ⟨b, 4, none⟩ a4).setCell ⟨b, 5, none⟩ a5).setCell ⟨b, 6, none⟩ a6).setCell ⟨b, 7, none⟩ a7).setCell ⟨b, 8, none⟩ a8).setCell ⟨b, 9, none⟩ a9).setCell ⟨b, 10, none⟩ a10) := ((((((((((((Turned.refl lo hi V).set (b := b) 0 a0 h1 h2).set (b := b) 1 a1 h1 h2).set (b := b) 2 a2 h1 h2).set (b := b) 3 a3 h1 h2).set (b := b) 4 a4 h1 h2).set (b := b) 5 a5 h1 h2).set (b := b) 6 a6 h1 h2).set (b := b) 7 a7 h1 h2).set (b := b) 8 a8 h1 h2).set (b := b) 9 a9 h1 h2).set (b := b) 10 a10 h1 h2)
set_option maxRecDepth 100000 in
set_option maxHeartbeats 4000000 in
theorem says_time (now : Int) (B : Nat) (hi : Nat) (W : World) (x : AcctD) (vh vc vs vl : Value) (hg : Handle W) (hz : acctSmall 1048576 x) (hbig : acctBig x) (h : AcctR.rd hi W (aCells x vh vc vs vl) x) (hh : hi ≤ W.heap.size) (hb : bk W B 3 [.int .i64 now]) :
    Calls Tryz.prog 28 #[.agg #[.string (aId x), .int .i64 (aLim x), .int .i64 (aPos x), .int .i64 (aMost x), .int .i64 (aSum x), vh, .int .i64 (aR x).1, .int .i64 (aR x).2.1, vc, vs, vl], .pointer (some ⟨B, 0, none⟩)] W (acctOneI (acctAt x now) W) := by
  obtain ⟨AH, cH, AC, cC, AS, cS, AL, cL, hf⟩ := acct_forms h
  simp only [aCells, List.cons.injEq, and_true, true_and] at hf
  obtain ⟨rfl, rfl, rfl, rfl⟩ := hf
  obtain ⟨V, hV⟩ : ∃ V, V = (W.alloc (.cells #[.string (aId x), .int .i64 (aLim x), .int .i64 (aPos x), .int .i64 (aMost x), .int .i64 (aSum x), .slice AH (aH x).length cH, .int .i64 (aR x).1, .int .i64 (aR x).2.1, .slice AC (aR x).2.2.1.length cC, .slice AS (aR x).2.2.2.length cS, .slice AL (aS x).length cL] 50)).alloc (.cells #[.string ⟨#[]⟩, .int .i64 0, .int .i64 0, .int .i64 0, .int .i64 0, .slice none 0 0, .int .i64 0, .int .i64 0, .slice none 0 0, .slice none 0 0, .slice none 0 0] 50) := ⟨_, rfl⟩
  have b0 : bk V W.heap.size 50 [.string (aId x), .int .i64 (aLim x), .int .i64 (aPos x), .int .i64 (aMost x), .int .i64 (aSum x), .slice AH (aH x).length cH, .int .i64 (aR x).1, .int .i64 (aR x).2.1, .slice AC (aR x).2.2.1.length cC, .slice AS (aR x).2.2.2.length cS, .slice AL (aS x).length cL] := by rw [hV]; exact (bk.new W _ _).alloc _
  have b1 : bk V (W.heap.size + 1) 50 [.string ⟨#[]⟩, .int .i64 0, .int .i64 0, .int .i64 0, .int .i64 0, .slice none 0 0, .int .i64 0, .int .i64 0, .slice none 0 0, .slice none 0 0, .slice none 0 0] := by rw [hV]; simpa using bk.new (W.alloc _) 50 [.string ⟨#[]⟩, .int .i64 0, .int .i64 0, .int .i64 0, .int .i64 0, .slice none 0 0, .int .i64 0, .int .i64 0, .slice none 0 0, .slice none 0 0, .slice none 0 0]
  have HB0 : Hid (Below W.heap.size W V) := Lib.hid (by rw [hV]; exact ((Below.refl _ _).alloc (Nat.le_refl _) _).alloc (by simp) _)
  have zV : V.heap.size = W.heap.size + 2 := by rw [hV]; simp
  have c0 := (HB0.out.cell (p := ⟨B, 0, none⟩) (hb.lt)).trans (hb.cell 0)
  simp only [List.getElem?_cons_zero] at c0
  have HQ := Lib.hid (implAcctAt_any hi _ _ _ _ x now V (hg.below HB0.out (Nat.le_refl _)) hz hbig (Rep.below (R := AcctR) h HB0.out hh) (by omega))
  have B1 := Lib.hid b1
  clear hg hz hbig h hb
  generalize acctAt x now = y at HQ ⊢
  go_enter Tryz.func28, Tryz.ntmps28
  go_upto_region 1 with fail
  rw [← hV]
  clear hV b1
  obtain ⟨⟨p0, p1, p2, p3, p4, p5, p6, p7, p8, p9, p10⟩, -⟩ := b0.eleven
  clear b0
  go_wp2_with fail
  refine HQ.out.mono ?_
  rintro e w2 ⟨vh2, vc2, vs2, vl2, rfl, hI, hb2⟩
  obtain ⟨BH, dH, BC, dC, BS, dS, BL, dL, hf⟩ := acct_forms hI.mine.rd
  simp only [aCells, List.cons.injEq, and_true, true_and] at hf
  obtain ⟨rfl, rfl, rfl, rfl⟩ := hf
  have HI := Lib.hid hI
  have z2 := hb2.size
  have b1 := B1.out.below hb2 (by omega)
  have HB2 : Hid (Below W.heap.size W w2) := Lib.hid (HB0.out.trans (hb2.mono (by omega)))
  obtain ⟨⟨r0, r1, r2, r3, r4, r5, r6, r7, r8, r9, r10⟩, g0, g1, g2, g3, g4, g5, g6, g7, g8, g9, g10⟩ := b1.eleven
  clear hI hb2 b1 p0 p1 p2 p3 p4 p5 p6 p7 p8 p9 p10
  go_wp2
  refine bodyPost_ret (v := aAgg y (.slice BH (aH y).length dH) (.slice BC (aR y).2.2.1.length dC) (.slice BS (aR y).2.2.2.length dS) (.slice BL (aS y).length dL)) (by simp [results, Tryz.results28, go_sem, r0, r1, r2, r3, r4, r5, r6, r7, r8, r9, r10]) rfl ?_
  have ht : Turned (W.heap.size + 1) (W.heap.size + 2) w2 _ := Turned.of_sets11 w2 (W.heap.size + 1) (W.heap.size + 1) (W.heap.size + 2) (Nat.le_refl _) (by omega) (.string (aId y)) (.int .i64 (aLim y)) (.int .i64 (aPos y)) (.int .i64 (aMost y)) (.int .i64 (aSum y)) (.slice BH (aH y).length dH) (.int .i64 (aR y).1) (.int .i64 (aR y).2.1) (.slice BC (aR y).2.2.1.length dC) (.slice BS (aR y).2.2.2.length dS) (.slice BL (aS y).length dL)
  have hI := HI.out.turned ht (.inr (by omega)) (Nat.le_refl _)
  exact ⟨_, _, _, _, rfl, hI.mono (lo' := W.heap.size) (by omega) ht.size, HB2.out.trans (ht.below (by omega) (by omega))⟩
set_option maxRecDepth 100000 in
set_option maxHeartbeats 1600000 in
theorem implBookTime_any (hi : Nat) (v : Value) (l : BookD) (now : Int) (w : World) (hg : Handle w) (hs : bookSmall 1048576 l) (hbig : ∀ x ∈ l, acctBig x) (h : AcctsR.rd hi w [v] l) (hh : hi ≤ w.heap.size) :
    Calls Tryz.prog 12 #[.agg #[v], .int .i64 now] w (bookOneI (l.map fun x => acctAt x now) w) := by
  obtain ⟨A, c, rfl, hc⟩ := Rep.slice_form h
  have eg := Go.Proofs.enters_of Tryz.func28 (by kernel_rfl) rfl
  obtain ⟨W, hW⟩ : ∃ W, W = ((w.alloc (.cells #[.slice A l.length c] 29)).alloc (.cells #[.int .i64 now] 3)).alloc (.cells #[.slice none 0 0] 29) := ⟨_, rfl⟩
  have b0 : bk W w.heap.size 29 [.slice A l.length c] := by rw [hW]; exact ((bk.new w _ _).alloc _).alloc _
  have b1 : bk W (w.heap.size + 1) 3 [.int .i64 now] := by rw [hW]; exact (by simpa using bk.new (w.alloc _) _ _ : bk _ (w.heap.size + 1) _ _).alloc _
  have b2 : bk W (w.heap.size + 1 + 1) 29 [.slice none 0 0] := by rw [hW]; simpa using bk.new ((w.alloc _).alloc _) _ _
  have HB0 : Hid (Below w.heap.size w W) := Lib.hid (by rw [hW]; exact (((Below.refl _ _).alloc (Nat.le_refl _) _).alloc (by simp) _).alloc (by simp; omega) _)
  have z0 : W.heap.size = w.heap.size + 3 := by rw [hW]; simp
  have HQ := Lib.hid (eachAcct_any _ #[.pointer (some ⟨w.heap.size + 1, 0, none⟩)] (fun x => acctAt x now) hi _ l W hs.1 (Rep.below (R := AcctsR) h HB0.out hh) (Nat.le_trans hh HB0.out.size) eg (fun x hx V vh vc vs vl hV hr => says_time now (w.heap.size + 1) hi V x vh vc vs vl (hg.below (HB0.out.trans (hV.mono HB0.out.size)) (Nat.le_refl _)) (hs.2 x hx) (hbig x hx) hr (Nat.le_trans hh (Nat.le_trans HB0.out.size hV.size)) (b1.below hV (by omega))))
  have q0 := b0.cell 0
  simp only [List.getElem?_cons_zero] at q0
  have B2 := Lib.hid b2
  clear h hs eg b0 b1 b2 hbig hg
  generalize (l.map fun x => acctAt x now) = R at HQ ⊢
  go_enter Tryz.func12, Tryz.ntmps12
  go_upto_region 1 with fail
  rw [← hW]
  clear hW
  go_wp2_with fail
  refine HQ.out.mono ?_
  rintro e w1 ⟨u, rfl, hm, hb⟩
  obtain ⟨AU, cU, rfl, -⟩ := Rep.slice_form (AcctsIv.rd hm)
  have HM := Lib.hid hm
  have z1 := hb.size
  have b2 := B2.out.below hb (by omega)
  have HB1 : Hid (Below w.heap.size w w1) := Lib.hid (HB0.out.trans (hb.mono (by omega)))
  clear hm hb
  have q1 := b2.cell 0
  have f1 := b2.frozen 0
  simp only [List.getElem?_cons_zero] at q1
  go_wp2
  refine bodyPost_ret (v := .agg #[.slice AU R.length cU]) (by simp [results, Tryz.results12, go_sem, q1]) rfl ?_
  have ht := (Turned.refl w.heap.size (w.heap.size + 3) w1).set (b := w.heap.size + 1 + 1) 0 (.slice AU R.length cU) (by omega) (by omega)
  have hI := AcctsIv.turned HM.out ht (.inr (by omega)) (Nat.le_refl _)
  exact ⟨_, rfl, AcctsIv.mono (lo' := w.heap.size) hI (by omega) ht.size, HB1.out.trans (ht.below (by omega) (by omega))⟩
end Go.Proofs.YthnimmagaocipaaGreatDoor
set_option linter.unusedVariables false
namespace Go.Proofs.YthnimmagaocipaaGreatDoor
open Go.ChangeShapes Go.WideShapes Go.ChangeAt Go.RowKit

set_option maxRecDepth 100000 in
theorem markOf_size (k : Int) (h : k ≤ 1000000000) : (markOf k).length ≤ 21 := by
  have := mark_len k h
  unfold markOf
  simp; omega
end Go.Proofs.YthnimmagaocipaaGreatDoor
