/- ReqOk of the reference; no conditions. -/
import Derived.Test.YtiolebpoofkpmaaGreatDoorMrp3
import Derived.Test.YtiolebpoofkpmaaGreatDoorMrp4
set_option linter.unusedVariables false
namespace Go.Proofs.YtiolebpoofkpmaaGreatDoor
open Go.ChangeShapes Go.WideShapes Go.ChangeAt Go.RowKit

set_option maxRecDepth 100000 in
set_option maxHeartbeats 8000000 in
theorem specReqOk_early (op : Int) (acct other hold trace mti om : ByteArray) (amount ttl : Int) (w : World) (hs1 : acct.size ≤ maxLen) (hs2 : other.size ≤ maxLen) (hs3 : hold.size ≤ maxLen) (hs4 : trace.size ≤ maxLen) (hom : opTxt 0 op = om) (hno : ¬ (isOp op = true ∧ mti = om ∧ acctIdB acct = true ∧ digs trace = true ∧ trace.size = 6)) :
    Calls Tryz.prog 29 #[.agg #[.int .i64 op, .string acct, .string other, .string hold, .string trace, .string mti, .int .i64 amount, .int .i64 ttl]] w fun e w' => e = .returned (.bool false) ∧ Below w.heap.size w w' := by
  have HOP := Lib.hid (l11Op_any op)
  have HMT := Lib.hid (hom ▸ specOpMti_any op)
  have HAC := Lib.hid (fun V => specAcctIdOk_any acct V hs1)
  have HDG := Lib.hid (fun V => specDigits_any trace V hs4)
  generalize isOp op = b1 at HOP hno
  generalize acctIdB acct = b2 at HAC hno
  generalize digs trace = b3 at HDG hno
  clear hom hs1 hs2 hs3 hs4
  cases b1
  · clear hno
    go_enter Tryz.func29, Tryz.ntmps29
    go_upto_region 1 with fail
    obtain ⟨W, hW⟩ : ∃ W, W = w.alloc (.cells #[.int .i64 op, .string acct, .string other, .string hold, .string trace, .string mti, .int .i64 amount, .int .i64 ttl] 37) := ⟨_, rfl⟩
    have bb : bk W w.heap.size 37 [.int .i64 op, .string acct, .string other, .string hold, .string trace, .string mti, .int .i64 amount, .int .i64 ttl] := by rw [hW]; exact bk.new w _ _
    have HBW : Hid (Below w.heap.size w W) := Lib.hid (by rw [hW]; exact (Below.refl _ _).alloc (Nat.le_refl _) _)
    rw [← hW]
    clear hW
    have z0 := bb.lt
    have B0 := Lib.hid bb
    obtain ⟨⟨p0, p1, p2, p3, p4, p5, p6, p7⟩, -⟩ := bb.eight
    have P0 := Lib.hid p0
    have P1 := Lib.hid p1
    have P4 := Lib.hid p4
    have P5 := Lib.hid p5
    clear bb p0 p1 p2 p3 p4 p5 p6 p7
    have HX : Hid (Ext W W.drew) := Lib.hid (Ext.refl W).drew
    refine quiet_region (C := Ext W) (by kernel_rfl) (by kernel_rfl) HX.out ?_
    repeat (first
      | go_big_quiet_skip
      | (go_big_quiet_want; go_big_quiet_op; go_big_quiet_on)
      | (go_big_quiet_want; go_big_quiet_op; apply Exists.intro; refine ⟨fun _ _ => rfl, ?_⟩; go_big_quiet_on)
      | (go_big_quiet_want
         apply Exists.intro
         refine ⟨fun V hV => ?_, ?_⟩
         (have p0 := hV.cell P0.out (by omega)
          have p1 := hV.cell P1.out (by omega)
          have p4 := hV.cell P4.out (by omega)
          have p5 := hV.cell P5.out (by omega)
          unfold Oper.quietAt
          go_simp
          rfl)
         simp only [Act.put, List.setIfInBounds_toArray, List.set_cons_zero, List.set_cons_succ]
         go_big_quiet_on)
      | (go_big_quiet_want
         apply Exists.intro
         refine ⟨fun V hV => ?_, ?_⟩
         (unfold Oper.quietAt
          go_simp
          go_at_call 49
          refine (HOP.out V).mono ?_
          rintro e w4 ⟨rfl, rfl⟩
          exact ⟨rfl, hV⟩)
         simp only [Act.put, List.setIfInBounds_toArray, List.set_cons_zero, List.set_cons_succ]
         go_big_quiet_on)
      | (go_big_quiet_want
         apply Exists.intro
         refine ⟨fun V hV => ?_, ?_⟩
         (unfold Oper.quietAt
          go_simp
          go_at_call 47
          refine (HMT.out V).mono ?_
          rintro e w4 ⟨rfl, hb⟩
          exact ⟨rfl, hV.step hb⟩)
         simp only [Act.put, List.setIfInBounds_toArray, List.set_cons_zero, List.set_cons_succ]
         go_big_quiet_on)
      | (go_big_quiet_want
         apply Exists.intro
         refine ⟨fun V hV => ?_, ?_⟩
         (unfold Oper.quietAt
          go_simp
          go_at_call 50
          refine (HAC.out V).mono ?_
          rintro e w4 ⟨rfl, hb⟩
          exact ⟨rfl, hV.step hb⟩)
         simp only [Act.put, List.setIfInBounds_toArray, List.set_cons_zero, List.set_cons_succ]
         go_big_quiet_on)
      | (go_big_quiet_want
         apply Exists.intro
         refine ⟨fun V hV => ?_, ?_⟩
         (unfold Oper.quietAt
          go_simp
          go_at_call 38
          refine (HDG.out V).mono ?_
          rintro e w4 ⟨rfl, rfl⟩
          exact ⟨rfl, hV⟩)
         simp only [Act.put, List.setIfInBounds_toArray, List.set_cons_zero, List.set_cons_succ]
         go_big_quiet_on)
      | fail)
    refine wpQuiet_nil ?_
    intro w2 hw2
    have z2 : W.heap.size ≤ w2.heap.size := hw2.below.size
    have HB : Hid (Below w.heap.size w w2) := Lib.hid (HBW.out.trans (hw2.below.mono (by omega)))
    go_wp2
    go_ret
    exact ⟨rfl, HB.out⟩
  by_cases hm : mti = om
  rotate_left
  · have hm' : (mti.toList == om.toList) = false := str_no hm
    clear hno hm
    go_enter Tryz.func29, Tryz.ntmps29
    go_upto_region 1 with fail
    obtain ⟨W, hW⟩ : ∃ W, W = w.alloc (.cells #[.int .i64 op, .string acct, .string other, .string hold, .string trace, .string mti, .int .i64 amount, .int .i64 ttl] 37) := ⟨_, rfl⟩
    have bb : bk W w.heap.size 37 [.int .i64 op, .string acct, .string other, .string hold, .string trace, .string mti, .int .i64 amount, .int .i64 ttl] := by rw [hW]; exact bk.new w _ _
    have HBW : Hid (Below w.heap.size w W) := Lib.hid (by rw [hW]; exact (Below.refl _ _).alloc (Nat.le_refl _) _)
    rw [← hW]
    clear hW
    have z0 := bb.lt
    have B0 := Lib.hid bb
    obtain ⟨⟨p0, p1, p2, p3, p4, p5, p6, p7⟩, -⟩ := bb.eight
    have P0 := Lib.hid p0
    have P1 := Lib.hid p1
    have P4 := Lib.hid p4
    have P5 := Lib.hid p5
    clear bb p0 p1 p2 p3 p4 p5 p6 p7
    have HX : Hid (Ext W W.drew) := Lib.hid (Ext.refl W).drew
    refine quiet_region (C := Ext W) (by kernel_rfl) (by kernel_rfl) HX.out ?_
    repeat (first
      | go_big_quiet_skip
      | (go_big_quiet_want; go_big_quiet_op; go_big_quiet_on)
      | (go_big_quiet_want; go_big_quiet_op; apply Exists.intro; refine ⟨fun _ _ => rfl, ?_⟩; go_big_quiet_on)
      | (go_big_quiet_want
         apply Exists.intro
         refine ⟨fun V hV => ?_, ?_⟩
         (have p0 := hV.cell P0.out (by omega)
          have p1 := hV.cell P1.out (by omega)
          have p4 := hV.cell P4.out (by omega)
          have p5 := hV.cell P5.out (by omega)
          unfold Oper.quietAt
          go_simp
          rfl)
         simp only [Act.put, List.setIfInBounds_toArray, List.set_cons_zero, List.set_cons_succ]
         go_big_quiet_on)
      | (go_big_quiet_want
         apply Exists.intro
         refine ⟨fun V hV => ?_, ?_⟩
         (unfold Oper.quietAt
          go_simp
          go_at_call 49
          refine (HOP.out V).mono ?_
          rintro e w4 ⟨rfl, rfl⟩
          exact ⟨rfl, hV⟩)
         simp only [Act.put, List.setIfInBounds_toArray, List.set_cons_zero, List.set_cons_succ]
         go_big_quiet_on)
      | (go_big_quiet_want
         apply Exists.intro
         refine ⟨fun V hV => ?_, ?_⟩
         (unfold Oper.quietAt
          go_simp
          go_at_call 47
          refine (HMT.out V).mono ?_
          rintro e w4 ⟨rfl, hb⟩
          exact ⟨rfl, hV.step hb⟩)
         simp only [Act.put, List.setIfInBounds_toArray, List.set_cons_zero, List.set_cons_succ]
         go_big_quiet_on)
      | (go_big_quiet_want
         apply Exists.intro
         refine ⟨fun V hV => ?_, ?_⟩
         (unfold Oper.quietAt
          go_simp
          go_at_call 50
          refine (HAC.out V).mono ?_
          rintro e w4 ⟨rfl, hb⟩
          exact ⟨rfl, hV.step hb⟩)
         simp only [Act.put, List.setIfInBounds_toArray, List.set_cons_zero, List.set_cons_succ]
         go_big_quiet_on)
      | (go_big_quiet_want
         apply Exists.intro
         refine ⟨fun V hV => ?_, ?_⟩
         (unfold Oper.quietAt
          go_simp
          go_at_call 38
          refine (HDG.out V).mono ?_
          rintro e w4 ⟨rfl, rfl⟩
          exact ⟨rfl, hV⟩)
         simp only [Act.put, List.setIfInBounds_toArray, List.set_cons_zero, List.set_cons_succ]
         go_big_quiet_on)
      | fail)
    refine wpQuiet_nil ?_
    intro w2 hw2
    have z2 : W.heap.size ≤ w2.heap.size := hw2.below.size
    have HB : Hid (Below w.heap.size w w2) := Lib.hid (HBW.out.trans (hw2.below.mono (by omega)))
    go_wp2
    go_ret
    exact ⟨rfl, HB.out⟩
  subst hm
  cases b2
  · clear hno
    go_enter Tryz.func29, Tryz.ntmps29
    go_upto_region 1 with fail
    obtain ⟨W, hW⟩ : ∃ W, W = w.alloc (.cells #[.int .i64 op, .string acct, .string other, .string hold, .string trace, .string mti, .int .i64 amount, .int .i64 ttl] 37) := ⟨_, rfl⟩
    have bb : bk W w.heap.size 37 [.int .i64 op, .string acct, .string other, .string hold, .string trace, .string mti, .int .i64 amount, .int .i64 ttl] := by rw [hW]; exact bk.new w _ _
    have HBW : Hid (Below w.heap.size w W) := Lib.hid (by rw [hW]; exact (Below.refl _ _).alloc (Nat.le_refl _) _)
    rw [← hW]
    clear hW
    have z0 := bb.lt
    have B0 := Lib.hid bb
    obtain ⟨⟨p0, p1, p2, p3, p4, p5, p6, p7⟩, -⟩ := bb.eight
    have P0 := Lib.hid p0
    have P1 := Lib.hid p1
    have P4 := Lib.hid p4
    have P5 := Lib.hid p5
    clear bb p0 p1 p2 p3 p4 p5 p6 p7
    have HX : Hid (Ext W W.drew) := Lib.hid (Ext.refl W).drew
    refine quiet_region (C := Ext W) (by kernel_rfl) (by kernel_rfl) HX.out ?_
    repeat (first
      | go_big_quiet_skip
      | (go_big_quiet_want; go_big_quiet_op; go_big_quiet_on)
      | (go_big_quiet_want; go_big_quiet_op; apply Exists.intro; refine ⟨fun _ _ => rfl, ?_⟩; go_big_quiet_on)
      | (go_big_quiet_want
         apply Exists.intro
         refine ⟨fun V hV => ?_, ?_⟩
         (have p0 := hV.cell P0.out (by omega)
          have p1 := hV.cell P1.out (by omega)
          have p4 := hV.cell P4.out (by omega)
          have p5 := hV.cell P5.out (by omega)
          unfold Oper.quietAt
          go_simp
          rfl)
         simp only [Act.put, List.setIfInBounds_toArray, List.set_cons_zero, List.set_cons_succ]
         go_big_quiet_on)
      | (go_big_quiet_want
         apply Exists.intro
         refine ⟨fun V hV => ?_, ?_⟩
         (unfold Oper.quietAt
          go_simp
          go_at_call 49
          refine (HOP.out V).mono ?_
          rintro e w4 ⟨rfl, rfl⟩
          exact ⟨rfl, hV⟩)
         simp only [Act.put, List.setIfInBounds_toArray, List.set_cons_zero, List.set_cons_succ]
         go_big_quiet_on)
      | (go_big_quiet_want
         apply Exists.intro
         refine ⟨fun V hV => ?_, ?_⟩
         (unfold Oper.quietAt
          go_simp
          go_at_call 47
          refine (HMT.out V).mono ?_
          rintro e w4 ⟨rfl, hb⟩
          exact ⟨rfl, hV.step hb⟩)
         simp only [Act.put, List.setIfInBounds_toArray, List.set_cons_zero, List.set_cons_succ]
         go_big_quiet_on)
      | (go_big_quiet_want
         apply Exists.intro
         refine ⟨fun V hV => ?_, ?_⟩
         (unfold Oper.quietAt
          go_simp
          go_at_call 50
          refine (HAC.out V).mono ?_
          rintro e w4 ⟨rfl, hb⟩
          exact ⟨rfl, hV.step hb⟩)
         simp only [Act.put, List.setIfInBounds_toArray, List.set_cons_zero, List.set_cons_succ]
         go_big_quiet_on)
      | (go_big_quiet_want
         apply Exists.intro
         refine ⟨fun V hV => ?_, ?_⟩
         (unfold Oper.quietAt
          go_simp
          go_at_call 38
          refine (HDG.out V).mono ?_
          rintro e w4 ⟨rfl, rfl⟩
          exact ⟨rfl, hV⟩)
         simp only [Act.put, List.setIfInBounds_toArray, List.set_cons_zero, List.set_cons_succ]
         go_big_quiet_on)
      | fail)
    refine wpQuiet_nil ?_
    intro w2 hw2
    have z2 : W.heap.size ≤ w2.heap.size := hw2.below.size
    have HB : Hid (Below w.heap.size w w2) := Lib.hid (HBW.out.trans (hw2.below.mono (by omega)))
    go_wp2
    go_ret
    exact ⟨rfl, HB.out⟩
  cases b3
  · clear hno
    go_enter Tryz.func29, Tryz.ntmps29
    go_upto_region 1 with fail
    obtain ⟨W, hW⟩ : ∃ W, W = w.alloc (.cells #[.int .i64 op, .string acct, .string other, .string hold, .string trace, .string mti, .int .i64 amount, .int .i64 ttl] 37) := ⟨_, rfl⟩
    have bb : bk W w.heap.size 37 [.int .i64 op, .string acct, .string other, .string hold, .string trace, .string mti, .int .i64 amount, .int .i64 ttl] := by rw [hW]; exact bk.new w _ _
    have HBW : Hid (Below w.heap.size w W) := Lib.hid (by rw [hW]; exact (Below.refl _ _).alloc (Nat.le_refl _) _)
    rw [← hW]
    clear hW
    have z0 := bb.lt
    have B0 := Lib.hid bb
    obtain ⟨⟨p0, p1, p2, p3, p4, p5, p6, p7⟩, -⟩ := bb.eight
    have P0 := Lib.hid p0
    have P1 := Lib.hid p1
    have P4 := Lib.hid p4
    have P5 := Lib.hid p5
    clear bb p0 p1 p2 p3 p4 p5 p6 p7
    have HX : Hid (Ext W W.drew) := Lib.hid (Ext.refl W).drew
    refine quiet_region (C := Ext W) (by kernel_rfl) (by kernel_rfl) HX.out ?_
    repeat (first
      | go_big_quiet_skip
      | (go_big_quiet_want; go_big_quiet_op; go_big_quiet_on)
      | (go_big_quiet_want; go_big_quiet_op; apply Exists.intro; refine ⟨fun _ _ => rfl, ?_⟩; go_big_quiet_on)
      | (go_big_quiet_want
         apply Exists.intro
         refine ⟨fun V hV => ?_, ?_⟩
         (have p0 := hV.cell P0.out (by omega)
          have p1 := hV.cell P1.out (by omega)
          have p4 := hV.cell P4.out (by omega)
          have p5 := hV.cell P5.out (by omega)
          unfold Oper.quietAt
          go_simp
          rfl)
         simp only [Act.put, List.setIfInBounds_toArray, List.set_cons_zero, List.set_cons_succ]
         go_big_quiet_on)
      | (go_big_quiet_want
         apply Exists.intro
         refine ⟨fun V hV => ?_, ?_⟩
         (unfold Oper.quietAt
          go_simp
          go_at_call 49
          refine (HOP.out V).mono ?_
          rintro e w4 ⟨rfl, rfl⟩
          exact ⟨rfl, hV⟩)
         simp only [Act.put, List.setIfInBounds_toArray, List.set_cons_zero, List.set_cons_succ]
         go_big_quiet_on)
      | (go_big_quiet_want
         apply Exists.intro
         refine ⟨fun V hV => ?_, ?_⟩
         (unfold Oper.quietAt
          go_simp
          go_at_call 47
          refine (HMT.out V).mono ?_
          rintro e w4 ⟨rfl, hb⟩
          exact ⟨rfl, hV.step hb⟩)
         simp only [Act.put, List.setIfInBounds_toArray, List.set_cons_zero, List.set_cons_succ]
         go_big_quiet_on)
      | (go_big_quiet_want
         apply Exists.intro
         refine ⟨fun V hV => ?_, ?_⟩
         (unfold Oper.quietAt
          go_simp
          go_at_call 50
          refine (HAC.out V).mono ?_
          rintro e w4 ⟨rfl, hb⟩
          exact ⟨rfl, hV.step hb⟩)
         simp only [Act.put, List.setIfInBounds_toArray, List.set_cons_zero, List.set_cons_succ]
         go_big_quiet_on)
      | (go_big_quiet_want
         apply Exists.intro
         refine ⟨fun V hV => ?_, ?_⟩
         (unfold Oper.quietAt
          go_simp
          go_at_call 38
          refine (HDG.out V).mono ?_
          rintro e w4 ⟨rfl, rfl⟩
          exact ⟨rfl, hV⟩)
         simp only [Act.put, List.setIfInBounds_toArray, List.set_cons_zero, List.set_cons_succ]
         go_big_quiet_on)
      | fail)
    refine wpQuiet_nil ?_
    intro w2 hw2
    have z2 : W.heap.size ≤ w2.heap.size := hw2.below.size
    have HB : Hid (Below w.heap.size w w2) := Lib.hid (HBW.out.trans (hw2.below.mono (by omega)))
    go_wp2
    go_ret
    exact ⟨rfl, HB.out⟩
  have h6 : ((trace.size : Int) == 6) = false := by simp at hno ⊢; omega
  clear hno
  go_enter Tryz.func29, Tryz.ntmps29
  go_upto_region 1 with fail
  obtain ⟨W, hW⟩ : ∃ W, W = w.alloc (.cells #[.int .i64 op, .string acct, .string other, .string hold, .string trace, .string mti, .int .i64 amount, .int .i64 ttl] 37) := ⟨_, rfl⟩
  have bb : bk W w.heap.size 37 [.int .i64 op, .string acct, .string other, .string hold, .string trace, .string mti, .int .i64 amount, .int .i64 ttl] := by rw [hW]; exact bk.new w _ _
  have HBW : Hid (Below w.heap.size w W) := Lib.hid (by rw [hW]; exact (Below.refl _ _).alloc (Nat.le_refl _) _)
  rw [← hW]
  clear hW
  have z0 := bb.lt
  have B0 := Lib.hid bb
  obtain ⟨⟨p0, p1, p2, p3, p4, p5, p6, p7⟩, -⟩ := bb.eight
  have P0 := Lib.hid p0
  have P1 := Lib.hid p1
  have P4 := Lib.hid p4
  have P5 := Lib.hid p5
  clear bb p0 p1 p2 p3 p4 p5 p6 p7
  have HX : Hid (Ext W W.drew) := Lib.hid (Ext.refl W).drew
  refine quiet_region (C := Ext W) (by kernel_rfl) (by kernel_rfl) HX.out ?_
  repeat (first
    | go_big_quiet_skip
    | (go_big_quiet_want; go_big_quiet_op; go_big_quiet_on)
    | (go_big_quiet_want; go_big_quiet_op; apply Exists.intro; refine ⟨fun _ _ => rfl, ?_⟩; go_big_quiet_on)
    | (go_big_quiet_want
       apply Exists.intro
       refine ⟨fun V hV => ?_, ?_⟩
       (have p0 := hV.cell P0.out (by omega)
        have p1 := hV.cell P1.out (by omega)
        have p4 := hV.cell P4.out (by omega)
        have p5 := hV.cell P5.out (by omega)
        unfold Oper.quietAt
        go_simp
        rfl)
       simp only [Act.put, List.setIfInBounds_toArray, List.set_cons_zero, List.set_cons_succ]
       go_big_quiet_on)
    | (go_big_quiet_want
       apply Exists.intro
       refine ⟨fun V hV => ?_, ?_⟩
       (unfold Oper.quietAt
        go_simp
        go_at_call 49
        refine (HOP.out V).mono ?_
        rintro e w4 ⟨rfl, rfl⟩
        exact ⟨rfl, hV⟩)
       simp only [Act.put, List.setIfInBounds_toArray, List.set_cons_zero, List.set_cons_succ]
       go_big_quiet_on)
    | (go_big_quiet_want
       apply Exists.intro
       refine ⟨fun V hV => ?_, ?_⟩
       (unfold Oper.quietAt
        go_simp
        go_at_call 47
        refine (HMT.out V).mono ?_
        rintro e w4 ⟨rfl, hb⟩
        exact ⟨rfl, hV.step hb⟩)
       simp only [Act.put, List.setIfInBounds_toArray, List.set_cons_zero, List.set_cons_succ]
       go_big_quiet_on)
    | (go_big_quiet_want
       apply Exists.intro
       refine ⟨fun V hV => ?_, ?_⟩
       (unfold Oper.quietAt
        go_simp
        go_at_call 50
        refine (HAC.out V).mono ?_
        rintro e w4 ⟨rfl, hb⟩
        exact ⟨rfl, hV.step hb⟩)
       simp only [Act.put, List.setIfInBounds_toArray, List.set_cons_zero, List.set_cons_succ]
       go_big_quiet_on)
    | (go_big_quiet_want
       apply Exists.intro
       refine ⟨fun V hV => ?_, ?_⟩
       (unfold Oper.quietAt
        go_simp
        go_at_call 38
        refine (HDG.out V).mono ?_
        rintro e w4 ⟨rfl, rfl⟩
        exact ⟨rfl, hV⟩)
       simp only [Act.put, List.setIfInBounds_toArray, List.set_cons_zero, List.set_cons_succ]
       go_big_quiet_on)
    | fail)
  refine wpQuiet_nil ?_
  intro w2 hw2
  have z2 : W.heap.size ≤ w2.heap.size := hw2.below.size
  have HB : Hid (Below w.heap.size w w2) := Lib.hid (HBW.out.trans (hw2.below.mono (by omega)))
  go_wp2
  go_ret
  exact ⟨rfl, HB.out⟩

end Go.Proofs.YtiolebpoofkpmaaGreatDoor
