/- ReqOk of the reference, by the operation's class; no conditions. -/
import Derived.Test.YtmojpiofdfmdgabGreatDoorMrgReqS
set_option linter.unusedVariables false
namespace Go.Proofs.YtmojpiofdfmdgabGreatDoor
open Go.ChangeShapes Go.WideShapes Go.ChangeAt Go.RowKit

set_option maxRecDepth 100000 in
set_option maxHeartbeats 8000000 in
theorem specReqOk_auth (op : Int) (acct other hold trace mti om : ByteArray) (amount ttl : Int) (w : World) (hs1 : acct.size ≤ maxLen) (hs2 : other.size ≤ maxLen) (hs3 : hold.size ≤ maxLen) (hs4 : trace.size ≤ maxLen) (hop : op = 1) (hom : opTxt 0 op = om) (hm : mti = om) (h2 : acctIdB acct = true) (h3 : digs trace = true) (h4 : trace.size = 6) :
    Calls Tryz.prog 26 #[.agg #[.int .i64 op, .string acct, .string other, .string hold, .string trace, .string mti, .int .i64 amount, .int .i64 ttl]] w fun e w' => e = .returned (.bool (idOk hold && (decide (0 ≤ amount ∧ amount ≤ 999999999999) && (decide (0 ≤ ttl ∧ ttl ≤ 9999) && decide (other = ⟨#[]⟩))))) ∧ Below w.heap.size w w' := by
  have HOP := Lib.hid (l11Op_any op)
  have HMT := Lib.hid (hom ▸ specOpMti_any op)
  have HAC := Lib.hid (fun V => specAcctIdOk_any acct V hs1)
  have HDG := Lib.hid (fun V => specDigits_any trace V hs4)
  subst hop
  have HHU := Lib.hid (l11Hold_any 1)
  have HAU := Lib.hid (l11Amount_any 1)
  have HHI := Lib.hid (fun V => specHoldIdOk_any hold V hs3)
  have HLA := Lib.hid (fun V => specIn_any amount 0 999999999999 V)
  have HLT := Lib.hid (fun V => specIn_any ttl 0 9999 V)
  have HOI := Lib.hid (fun V => specAcctIdOk_any other V hs2)
  have k1 : isOp 1 = true := by decide
  have k2 : holdU 1 = true := by decide
  have k3 : amtU 1 = true := by decide
  rw [k1] at HOP
  rw [k2] at HHU
  rw [k3] at HAU
  rw [h2] at HAC
  rw [h3] at HDG
  have h6 : ((trace.size : Int) == 6) = true := by simp; omega
  clear k1 k2 k3 h2 h3 h4 hom hs1 hs2 hs3 hs4
  subst hm
  generalize idOk hold = bh at HHI ⊢
  generalize decide (0 ≤ amount ∧ amount ≤ 999999999999) = ba at HLA ⊢
  generalize decide (0 ≤ ttl ∧ ttl ≤ 9999) = bt at HLT ⊢
  go_enter Tryz.func26, Tryz.ntmps26
  go_upto_region 1 with fail
  obtain ⟨W, hW⟩ : ∃ W, W = w.alloc (.cells #[.int .i64 1, .string acct, .string other, .string hold, .string trace, .string mti, .int .i64 amount, .int .i64 ttl] 27) := ⟨_, rfl⟩
  have bb : bk W w.heap.size 27 [.int .i64 1, .string acct, .string other, .string hold, .string trace, .string mti, .int .i64 amount, .int .i64 ttl] := by rw [hW]; exact bk.new w _ _
  have HBW : Hid (Below w.heap.size w W) := Lib.hid (by rw [hW]; exact (Below.refl _ _).alloc (Nat.le_refl _) _)
  rw [← hW]
  clear hW
  have z0 := bb.lt
  have B0 := Lib.hid bb
  obtain ⟨⟨p0, p1, p2, p3, p4, p5, p6, p7⟩, -⟩ := bb.eight
  have P0 := Lib.hid p0
  have P1 := Lib.hid p1
  have P4 := Lib.hid p4
  have P5 := Lib.hid p5
  clear bb p0 p1 p2 p3 p4 p5 p6 p7
  have HX : Hid (Ext W W.drew) := Lib.hid (Ext.refl W).drew
  refine quiet_region (C := Ext W) (by kernel_rfl) (by kernel_rfl) HX.out ?_
  repeat (first
    | go_big_quiet_skip
    | (go_big_quiet_want; go_big_quiet_op; go_big_quiet_on)
    | (go_big_quiet_want; go_big_quiet_op; apply Exists.intro; refine ⟨fun _ _ => rfl, ?_⟩; go_big_quiet_on)
    | (go_big_quiet_want
       apply Exists.intro
       refine ⟨fun V hV => ?_, ?_⟩
       (have p0 := hV.cell P0.out (by omega)
        have p1 := hV.cell P1.out (by omega)
        have p4 := hV.cell P4.out (by omega)
        have p5 := hV.cell P5.out (by omega)
        unfold Oper.quietAt
        go_simp
        rfl)
       simp only [Act.put, List.setIfInBounds_toArray, List.set_cons_zero, List.set_cons_succ]
       go_big_quiet_on)
    | (go_big_quiet_want
       apply Exists.intro
       refine ⟨fun V hV => ?_, ?_⟩
       (unfold Oper.quietAt
        go_simp
        go_at_call 46
        refine (HOP.out V).mono ?_
        rintro e w4 ⟨rfl, rfl⟩
        exact ⟨rfl, hV⟩)
       simp only [Act.put, List.setIfInBounds_toArray, List.set_cons_zero, List.set_cons_succ]
       go_big_quiet_on)
    | (go_big_quiet_want
       apply Exists.intro
       refine ⟨fun V hV => ?_, ?_⟩
       (unfold Oper.quietAt
        go_simp
        go_at_call 45
        refine (HMT.out V).mono ?_
        rintro e w4 ⟨rfl, hb⟩
        exact ⟨rfl, hV.step hb⟩)
       simp only [Act.put, List.setIfInBounds_toArray, List.set_cons_zero, List.set_cons_succ]
       go_big_quiet_on)
    | (go_big_quiet_want
       apply Exists.intro
       refine ⟨fun V hV => ?_, ?_⟩
       (unfold Oper.quietAt
        go_simp
        go_at_call 48
        refine (HAC.out V).mono ?_
        rintro e w4 ⟨rfl, hb⟩
        exact ⟨rfl, hV.step hb⟩)
       simp only [Act.put, List.setIfInBounds_toArray, List.set_cons_zero, List.set_cons_succ]
       go_big_quiet_on)
    | (go_big_quiet_want
       apply Exists.intro
       refine ⟨fun V hV => ?_, ?_⟩
       (unfold Oper.quietAt
        go_simp
        go_at_call 43
        refine (HDG.out V).mono ?_
        rintro e w4 ⟨rfl, rfl⟩
        exact ⟨rfl, hV⟩)
       simp only [Act.put, List.setIfInBounds_toArray, List.set_cons_zero, List.set_cons_succ]
       go_big_quiet_on)
    | fail)
  refine wpQuiet_nil ?_
  intro w2 hw2
  have z2 : W.heap.size ≤ w2.heap.size := hw2.below.size
  have HB : Hid (Below w.heap.size w w2) := Lib.hid (HBW.out.trans (hw2.below.mono (by omega)))
  have B2 := Lib.hid (B0.out.below hw2.below (by omega))
  clear hw2 HX P0 P1 P4 P5 B0 HBW
  obtain ⟨⟨p0, p1, p2, p3, p4, p5, p6, p7⟩, -⟩ := B2.out.eight
  clear B2
  go_wp2_with fail
  refine (HHU.out _).mono ?_
  rintro e wx ⟨rfl, rfl⟩
  go_wp2_with fail
  refine (HHI.out _).mono ?_
  rintro e wx ⟨rfl, rfl⟩
  cases bh
  · go_wp2
    go_ret
    exact ⟨by simp, HB.out⟩
  go_wp2_with fail
  refine (HHU.out _).mono ?_
  rintro e wx ⟨rfl, rfl⟩
  go_wp2_with fail
  refine (HAU.out _).mono ?_
  rintro e wx ⟨rfl, rfl⟩
  go_wp2_with fail
  refine (HLA.out _).mono ?_
  rintro e wx ⟨rfl, rfl⟩
  cases ba
  · go_wp2
    go_ret
    exact ⟨by simp, HB.out⟩
  go_wp2_with fail
  refine (HAU.out _).mono ?_
  rintro e wx ⟨rfl, rfl⟩
  go_wp2_with fail
  refine (HLT.out _).mono ?_
  rintro e wx ⟨rfl, rfl⟩
  cases bt
  · go_wp2
    go_ret
    exact ⟨by simp, HB.out⟩
  by_cases eo : other = ⟨#[]⟩
  · subst eo
    go_wp2
    go_ret
    exact ⟨by first | rfl | simp, HB.out⟩
  have eo' : (other.toList == []) = false := by have := str_no eo; simpa using this
  go_wp2
  go_ret
  exact ⟨by first | (simp; done) | simp [eo], HB.out⟩

set_option maxRecDepth 100000 in
set_option maxHeartbeats 8000000 in
theorem specReqOk_amt (op : Int) (acct other hold trace mti om : ByteArray) (amount ttl : Int) (w : World) (hs1 : acct.size ≤ maxLen) (hs2 : other.size ≤ maxLen) (hs3 : hold.size ≤ maxLen) (hs4 : trace.size ≤ maxLen) (hop : op = 2 ∨ op = 3 ∨ op = 4) (hom : opTxt 0 op = om) (hm : mti = om) (h2 : acctIdB acct = true) (h3 : digs trace = true) (h4 : trace.size = 6) :
    Calls Tryz.prog 26 #[.agg #[.int .i64 op, .string acct, .string other, .string hold, .string trace, .string mti, .int .i64 amount, .int .i64 ttl]] w fun e w' => e = .returned (.bool (idOk hold && (decide (0 ≤ amount ∧ amount ≤ 999999999999) && (decide (ttl = 0) && decide (other = ⟨#[]⟩))))) ∧ Below w.heap.size w w' := by
  have HOP := Lib.hid (l11Op_any op)
  have HMT := Lib.hid (hom ▸ specOpMti_any op)
  have HAC := Lib.hid (fun V => specAcctIdOk_any acct V hs1)
  have HDG := Lib.hid (fun V => specDigits_any trace V hs4)
  have HHU := Lib.hid (l11Hold_any op)
  have HAU := Lib.hid (l11Amount_any op)
  have HHI := Lib.hid (fun V => specHoldIdOk_any hold V hs3)
  have HLA := Lib.hid (fun V => specIn_any amount 0 999999999999 V)
  have HLT := Lib.hid (fun V => specIn_any ttl 0 9999 V)
  have HOI := Lib.hid (fun V => specAcctIdOk_any other V hs2)
  have k1 : isOp op = true := decide_eq_true (by omega)
  have k2 : holdU op = true := by rw [holdU, k1]; simp; omega
  have k3 : amtU op = true := by simp [amtU]; omega
  rw [k1] at HOP
  rw [k2] at HHU
  rw [k3] at HAU
  rw [h2] at HAC
  rw [h3] at HDG
  have n1 : (op == 1) = false := by simp; omega
  have n6 : (op == 6) = false := by simp; omega
  have m1 : (op != 1) = true := by simp; omega
  have m6 : (op != 6) = true := by simp; omega
  have h6 : ((trace.size : Int) == 6) = true := by simp; omega
  clear k1 k2 k3 h2 h3 h4 hom hop hs1 hs2 hs3 hs4
  subst hm
  generalize idOk hold = bh at HHI ⊢
  generalize decide (0 ≤ amount ∧ amount ≤ 999999999999) = ba at HLA ⊢
  go_enter Tryz.func26, Tryz.ntmps26
  go_upto_region 1 with fail
  obtain ⟨W, hW⟩ : ∃ W, W = w.alloc (.cells #[.int .i64 op, .string acct, .string other, .string hold, .string trace, .string mti, .int .i64 amount, .int .i64 ttl] 27) := ⟨_, rfl⟩
  have bb : bk W w.heap.size 27 [.int .i64 op, .string acct, .string other, .string hold, .string trace, .string mti, .int .i64 amount, .int .i64 ttl] := by rw [hW]; exact bk.new w _ _
  have HBW : Hid (Below w.heap.size w W) := Lib.hid (by rw [hW]; exact (Below.refl _ _).alloc (Nat.le_refl _) _)
  rw [← hW]
  clear hW
  have z0 := bb.lt
  have B0 := Lib.hid bb
  obtain ⟨⟨p0, p1, p2, p3, p4, p5, p6, p7⟩, -⟩ := bb.eight
  have P0 := Lib.hid p0
  have P1 := Lib.hid p1
  have P4 := Lib.hid p4
  have P5 := Lib.hid p5
  clear bb p0 p1 p2 p3 p4 p5 p6 p7
  have HX : Hid (Ext W W.drew) := Lib.hid (Ext.refl W).drew
  refine quiet_region (C := Ext W) (by kernel_rfl) (by kernel_rfl) HX.out ?_
  repeat (first
    | go_big_quiet_skip
    | (go_big_quiet_want; go_big_quiet_op; go_big_quiet_on)
    | (go_big_quiet_want; go_big_quiet_op; apply Exists.intro; refine ⟨fun _ _ => rfl, ?_⟩; go_big_quiet_on)
    | (go_big_quiet_want
       apply Exists.intro
       refine ⟨fun V hV => ?_, ?_⟩
       (have p0 := hV.cell P0.out (by omega)
        have p1 := hV.cell P1.out (by omega)
        have p4 := hV.cell P4.out (by omega)
        have p5 := hV.cell P5.out (by omega)
        unfold Oper.quietAt
        go_simp
        rfl)
       simp only [Act.put, List.setIfInBounds_toArray, List.set_cons_zero, List.set_cons_succ]
       go_big_quiet_on)
    | (go_big_quiet_want
       apply Exists.intro
       refine ⟨fun V hV => ?_, ?_⟩
       (unfold Oper.quietAt
        go_simp
        go_at_call 46
        refine (HOP.out V).mono ?_
        rintro e w4 ⟨rfl, rfl⟩
        exact ⟨rfl, hV⟩)
       simp only [Act.put, List.setIfInBounds_toArray, List.set_cons_zero, List.set_cons_succ]
       go_big_quiet_on)
    | (go_big_quiet_want
       apply Exists.intro
       refine ⟨fun V hV => ?_, ?_⟩
       (unfold Oper.quietAt
        go_simp
        go_at_call 45
        refine (HMT.out V).mono ?_
        rintro e w4 ⟨rfl, hb⟩
        exact ⟨rfl, hV.step hb⟩)
       simp only [Act.put, List.setIfInBounds_toArray, List.set_cons_zero, List.set_cons_succ]
       go_big_quiet_on)
    | (go_big_quiet_want
       apply Exists.intro
       refine ⟨fun V hV => ?_, ?_⟩
       (unfold Oper.quietAt
        go_simp
        go_at_call 48
        refine (HAC.out V).mono ?_
        rintro e w4 ⟨rfl, hb⟩
        exact ⟨rfl, hV.step hb⟩)
       simp only [Act.put, List.setIfInBounds_toArray, List.set_cons_zero, List.set_cons_succ]
       go_big_quiet_on)
    | (go_big_quiet_want
       apply Exists.intro
       refine ⟨fun V hV => ?_, ?_⟩
       (unfold Oper.quietAt
        go_simp
        go_at_call 43
        refine (HDG.out V).mono ?_
        rintro e w4 ⟨rfl, rfl⟩
        exact ⟨rfl, hV⟩)
       simp only [Act.put, List.setIfInBounds_toArray, List.set_cons_zero, List.set_cons_succ]
       go_big_quiet_on)
    | fail)
  refine wpQuiet_nil ?_
  intro w2 hw2
  have z2 : W.heap.size ≤ w2.heap.size := hw2.below.size
  have HB : Hid (Below w.heap.size w w2) := Lib.hid (HBW.out.trans (hw2.below.mono (by omega)))
  have B2 := Lib.hid (B0.out.below hw2.below (by omega))
  clear hw2 HX P0 P1 P4 P5 B0 HBW
  obtain ⟨⟨p0, p1, p2, p3, p4, p5, p6, p7⟩, -⟩ := B2.out.eight
  clear B2
  go_wp2_with fail
  refine (HHU.out _).mono ?_
  rintro e wx ⟨rfl, rfl⟩
  go_wp2_with fail
  refine (HHI.out _).mono ?_
  rintro e wx ⟨rfl, rfl⟩
  cases bh
  · go_wp2
    go_ret
    exact ⟨by simp, HB.out⟩
  go_wp2_with fail
  refine (HHU.out _).mono ?_
  rintro e wx ⟨rfl, rfl⟩
  go_wp2_with fail
  refine (HAU.out _).mono ?_
  rintro e wx ⟨rfl, rfl⟩
  go_wp2_with fail
  refine (HLA.out _).mono ?_
  rintro e wx ⟨rfl, rfl⟩
  cases ba
  · go_wp2
    go_ret
    exact ⟨by simp, HB.out⟩
  go_wp2_with fail
  refine (HAU.out _).mono ?_
  rintro e wx ⟨rfl, rfl⟩
  by_cases et : ttl = 0
  rotate_left
  · go_wp2
    go_ret
    exact ⟨by first | (simp; done) | simp [et], HB.out⟩
  subst et
  by_cases eo : other = ⟨#[]⟩
  · subst eo
    go_wp2
    go_ret
    exact ⟨by first | rfl | simp, HB.out⟩
  have eo' : (other.toList == []) = false := by have := str_no eo; simpa using this
  go_wp2
  go_ret
  exact ⟨by first | (simp; done) | simp [eo], HB.out⟩

set_option maxRecDepth 100000 in
set_option maxHeartbeats 8000000 in
theorem specReqOk_free (op : Int) (acct other hold trace mti om : ByteArray) (amount ttl : Int) (w : World) (hs1 : acct.size ≤ maxLen) (hs2 : other.size ≤ maxLen) (hs3 : hold.size ≤ maxLen) (hs4 : trace.size ≤ maxLen) (hop : op = 5) (hom : opTxt 0 op = om) (hm : mti = om) (h2 : acctIdB acct = true) (h3 : digs trace = true) (h4 : trace.size = 6) :
    Calls Tryz.prog 26 #[.agg #[.int .i64 op, .string acct, .string other, .string hold, .string trace, .string mti, .int .i64 amount, .int .i64 ttl]] w fun e w' => e = .returned (.bool (idOk hold && (decide (amount = 0) && (decide (ttl = 0) && decide (other = ⟨#[]⟩))))) ∧ Below w.heap.size w w' := by
  have HOP := Lib.hid (l11Op_any op)
  have HMT := Lib.hid (hom ▸ specOpMti_any op)
  have HAC := Lib.hid (fun V => specAcctIdOk_any acct V hs1)
  have HDG := Lib.hid (fun V => specDigits_any trace V hs4)
  subst hop
  have HHU := Lib.hid (l11Hold_any 5)
  have HAU := Lib.hid (l11Amount_any 5)
  have HHI := Lib.hid (fun V => specHoldIdOk_any hold V hs3)
  have HLA := Lib.hid (fun V => specIn_any amount 0 999999999999 V)
  have HLT := Lib.hid (fun V => specIn_any ttl 0 9999 V)
  have HOI := Lib.hid (fun V => specAcctIdOk_any other V hs2)
  have k1 : isOp 5 = true := by decide
  have k2 : holdU 5 = true := by decide
  have k3 : amtU 5 = false := by decide
  rw [k1] at HOP
  rw [k2] at HHU
  rw [k3] at HAU
  rw [h2] at HAC
  rw [h3] at HDG
  have h6 : ((trace.size : Int) == 6) = true := by simp; omega
  clear k1 k2 k3 h2 h3 h4 hom hs1 hs2 hs3 hs4
  subst hm
  generalize idOk hold = bh at HHI ⊢
  go_enter Tryz.func26, Tryz.ntmps26
  go_upto_region 1 with fail
  obtain ⟨W, hW⟩ : ∃ W, W = w.alloc (.cells #[.int .i64 5, .string acct, .string other, .string hold, .string trace, .string mti, .int .i64 amount, .int .i64 ttl] 27) := ⟨_, rfl⟩
  have bb : bk W w.heap.size 27 [.int .i64 5, .string acct, .string other, .string hold, .string trace, .string mti, .int .i64 amount, .int .i64 ttl] := by rw [hW]; exact bk.new w _ _
  have HBW : Hid (Below w.heap.size w W) := Lib.hid (by rw [hW]; exact (Below.refl _ _).alloc (Nat.le_refl _) _)
  rw [← hW]
  clear hW
  have z0 := bb.lt
  have B0 := Lib.hid bb
  obtain ⟨⟨p0, p1, p2, p3, p4, p5, p6, p7⟩, -⟩ := bb.eight
  have P0 := Lib.hid p0
  have P1 := Lib.hid p1
  have P4 := Lib.hid p4
  have P5 := Lib.hid p5
  clear bb p0 p1 p2 p3 p4 p5 p6 p7
  have HX : Hid (Ext W W.drew) := Lib.hid (Ext.refl W).drew
  refine quiet_region (C := Ext W) (by kernel_rfl) (by kernel_rfl) HX.out ?_
  repeat (first
    | go_big_quiet_skip
    | (go_big_quiet_want; go_big_quiet_op; go_big_quiet_on)
    | (go_big_quiet_want; go_big_quiet_op; apply Exists.intro; refine ⟨fun _ _ => rfl, ?_⟩; go_big_quiet_on)
    | (go_big_quiet_want
       apply Exists.intro
       refine ⟨fun V hV => ?_, ?_⟩
       (have p0 := hV.cell P0.out (by omega)
        have p1 := hV.cell P1.out (by omega)
        have p4 := hV.cell P4.out (by omega)
        have p5 := hV.cell P5.out (by omega)
        unfold Oper.quietAt
        go_simp
        rfl)
       simp only [Act.put, List.setIfInBounds_toArray, List.set_cons_zero, List.set_cons_succ]
       go_big_quiet_on)
    | (go_big_quiet_want
       apply Exists.intro
       refine ⟨fun V hV => ?_, ?_⟩
       (unfold Oper.quietAt
        go_simp
        go_at_call 46
        refine (HOP.out V).mono ?_
        rintro e w4 ⟨rfl, rfl⟩
        exact ⟨rfl, hV⟩)
       simp only [Act.put, List.setIfInBounds_toArray, List.set_cons_zero, List.set_cons_succ]
       go_big_quiet_on)
    | (go_big_quiet_want
       apply Exists.intro
       refine ⟨fun V hV => ?_, ?_⟩
       (unfold Oper.quietAt
        go_simp
        go_at_call 45
        refine (HMT.out V).mono ?_
        rintro e w4 ⟨rfl, hb⟩
        exact ⟨rfl, hV.step hb⟩)
       simp only [Act.put, List.setIfInBounds_toArray, List.set_cons_zero, List.set_cons_succ]
       go_big_quiet_on)
    | (go_big_quiet_want
       apply Exists.intro
       refine ⟨fun V hV => ?_, ?_⟩
       (unfold Oper.quietAt
        go_simp
        go_at_call 48
        refine (HAC.out V).mono ?_
        rintro e w4 ⟨rfl, hb⟩
        exact ⟨rfl, hV.step hb⟩)
       simp only [Act.put, List.setIfInBounds_toArray, List.set_cons_zero, List.set_cons_succ]
       go_big_quiet_on)
    | (go_big_quiet_want
       apply Exists.intro
       refine ⟨fun V hV => ?_, ?_⟩
       (unfold Oper.quietAt
        go_simp
        go_at_call 43
        refine (HDG.out V).mono ?_
        rintro e w4 ⟨rfl, rfl⟩
        exact ⟨rfl, hV⟩)
       simp only [Act.put, List.setIfInBounds_toArray, List.set_cons_zero, List.set_cons_succ]
       go_big_quiet_on)
    | fail)
  refine wpQuiet_nil ?_
  intro w2 hw2
  have z2 : W.heap.size ≤ w2.heap.size := hw2.below.size
  have HB : Hid (Below w.heap.size w w2) := Lib.hid (HBW.out.trans (hw2.below.mono (by omega)))
  have B2 := Lib.hid (B0.out.below hw2.below (by omega))
  clear hw2 HX P0 P1 P4 P5 B0 HBW
  obtain ⟨⟨p0, p1, p2, p3, p4, p5, p6, p7⟩, -⟩ := B2.out.eight
  clear B2
  go_wp2_with fail
  refine (HHU.out _).mono ?_
  rintro e wx ⟨rfl, rfl⟩
  go_wp2_with fail
  refine (HHI.out _).mono ?_
  rintro e wx ⟨rfl, rfl⟩
  cases bh
  · go_wp2
    go_ret
    exact ⟨by simp, HB.out⟩
  go_wp2_with fail
  refine (HHU.out _).mono ?_
  rintro e wx ⟨rfl, rfl⟩
  go_wp2_with fail
  refine (HAU.out _).mono ?_
  rintro e wx ⟨rfl, rfl⟩
  go_wp2_with fail
  refine (HAU.out _).mono ?_
  rintro e wx ⟨rfl, rfl⟩
  by_cases ea : amount = 0
  rotate_left
  · go_wp2
    go_ret
    exact ⟨by first | (simp; done) | simp [ea], HB.out⟩
  subst ea
  by_cases et : ttl = 0
  rotate_left
  · go_wp2
    go_ret
    exact ⟨by first | (simp; done) | simp [et], HB.out⟩
  subst et
  by_cases eo : other = ⟨#[]⟩
  · subst eo
    go_wp2
    go_ret
    exact ⟨by first | rfl | simp, HB.out⟩
  have eo' : (other.toList == []) = false := by have := str_no eo; simpa using this
  go_wp2
  go_ret
  exact ⟨by first | (simp; done) | simp [eo], HB.out⟩

set_option maxRecDepth 100000 in
set_option maxHeartbeats 8000000 in
theorem specReqOk_move (op : Int) (acct other hold trace mti om : ByteArray) (amount ttl : Int) (w : World) (hs1 : acct.size ≤ maxLen) (hs2 : other.size ≤ maxLen) (hs3 : hold.size ≤ maxLen) (hs4 : trace.size ≤ maxLen) (hop : op = 6) (hom : opTxt 0 op = om) (hm : mti = om) (h2 : acctIdB acct = true) (h3 : digs trace = true) (h4 : trace.size = 6) :
    Calls Tryz.prog 26 #[.agg #[.int .i64 op, .string acct, .string other, .string hold, .string trace, .string mti, .int .i64 amount, .int .i64 ttl]] w fun e w' => e = .returned (.bool (idOk hold && (decide (amount = 0) && (decide (ttl = 0) && acctIdB other)))) ∧ Below w.heap.size w w' := by
  have HOP := Lib.hid (l11Op_any op)
  have HMT := Lib.hid (hom ▸ specOpMti_any op)
  have HAC := Lib.hid (fun V => specAcctIdOk_any acct V hs1)
  have HDG := Lib.hid (fun V => specDigits_any trace V hs4)
  subst hop
  have HHU := Lib.hid (l11Hold_any 6)
  have HAU := Lib.hid (l11Amount_any 6)
  have HHI := Lib.hid (fun V => specHoldIdOk_any hold V hs3)
  have HLA := Lib.hid (fun V => specIn_any amount 0 999999999999 V)
  have HLT := Lib.hid (fun V => specIn_any ttl 0 9999 V)
  have HOI := Lib.hid (fun V => specAcctIdOk_any other V hs2)
  have k1 : isOp 6 = true := by decide
  have k2 : holdU 6 = true := by decide
  have k3 : amtU 6 = false := by decide
  rw [k1] at HOP
  rw [k2] at HHU
  rw [k3] at HAU
  rw [h2] at HAC
  rw [h3] at HDG
  have h6 : ((trace.size : Int) == 6) = true := by simp; omega
  clear k1 k2 k3 h2 h3 h4 hom hs1 hs2 hs3 hs4
  subst hm
  generalize idOk hold = bh at HHI ⊢
  generalize acctIdB other = bo at HOI ⊢
  go_enter Tryz.func26, Tryz.ntmps26
  go_upto_region 1 with fail
  obtain ⟨W, hW⟩ : ∃ W, W = w.alloc (.cells #[.int .i64 6, .string acct, .string other, .string hold, .string trace, .string mti, .int .i64 amount, .int .i64 ttl] 27) := ⟨_, rfl⟩
  have bb : bk W w.heap.size 27 [.int .i64 6, .string acct, .string other, .string hold, .string trace, .string mti, .int .i64 amount, .int .i64 ttl] := by rw [hW]; exact bk.new w _ _
  have HBW : Hid (Below w.heap.size w W) := Lib.hid (by rw [hW]; exact (Below.refl _ _).alloc (Nat.le_refl _) _)
  rw [← hW]
  clear hW
  have z0 := bb.lt
  have B0 := Lib.hid bb
  obtain ⟨⟨p0, p1, p2, p3, p4, p5, p6, p7⟩, -⟩ := bb.eight
  have P0 := Lib.hid p0
  have P1 := Lib.hid p1
  have P4 := Lib.hid p4
  have P5 := Lib.hid p5
  clear bb p0 p1 p2 p3 p4 p5 p6 p7
  have HX : Hid (Ext W W.drew) := Lib.hid (Ext.refl W).drew
  refine quiet_region (C := Ext W) (by kernel_rfl) (by kernel_rfl) HX.out ?_
  repeat (first
    | go_big_quiet_skip
    | (go_big_quiet_want; go_big_quiet_op; go_big_quiet_on)
    | (go_big_quiet_want; go_big_quiet_op; apply Exists.intro; refine ⟨fun _ _ => rfl, ?_⟩; go_big_quiet_on)
    | (go_big_quiet_want
       apply Exists.intro
       refine ⟨fun V hV => ?_, ?_⟩
       (have p0 := hV.cell P0.out (by omega)
        have p1 := hV.cell P1.out (by omega)
        have p4 := hV.cell P4.out (by omega)
        have p5 := hV.cell P5.out (by omega)
        unfold Oper.quietAt
        go_simp
        rfl)
       simp only [Act.put, List.setIfInBounds_toArray, List.set_cons_zero, List.set_cons_succ]
       go_big_quiet_on)
    | (go_big_quiet_want
       apply Exists.intro
       refine ⟨fun V hV => ?_, ?_⟩
       (unfold Oper.quietAt
        go_simp
        go_at_call 46
        refine (HOP.out V).mono ?_
        rintro e w4 ⟨rfl, rfl⟩
        exact ⟨rfl, hV⟩)
       simp only [Act.put, List.setIfInBounds_toArray, List.set_cons_zero, List.set_cons_succ]
       go_big_quiet_on)
    | (go_big_quiet_want
       apply Exists.intro
       refine ⟨fun V hV => ?_, ?_⟩
       (unfold Oper.quietAt
        go_simp
        go_at_call 45
        refine (HMT.out V).mono ?_
        rintro e w4 ⟨rfl, hb⟩
        exact ⟨rfl, hV.step hb⟩)
       simp only [Act.put, List.setIfInBounds_toArray, List.set_cons_zero, List.set_cons_succ]
       go_big_quiet_on)
    | (go_big_quiet_want
       apply Exists.intro
       refine ⟨fun V hV => ?_, ?_⟩
       (unfold Oper.quietAt
        go_simp
        go_at_call 48
        refine (HAC.out V).mono ?_
        rintro e w4 ⟨rfl, hb⟩
        exact ⟨rfl, hV.step hb⟩)
       simp only [Act.put, List.setIfInBounds_toArray, List.set_cons_zero, List.set_cons_succ]
       go_big_quiet_on)
    | (go_big_quiet_want
       apply Exists.intro
       refine ⟨fun V hV => ?_, ?_⟩
       (unfold Oper.quietAt
        go_simp
        go_at_call 43
        refine (HDG.out V).mono ?_
        rintro e w4 ⟨rfl, rfl⟩
        exact ⟨rfl, hV⟩)
       simp only [Act.put, List.setIfInBounds_toArray, List.set_cons_zero, List.set_cons_succ]
       go_big_quiet_on)
    | fail)
  refine wpQuiet_nil ?_
  intro w2 hw2
  have z2 : W.heap.size ≤ w2.heap.size := hw2.below.size
  have HB : Hid (Below w.heap.size w w2) := Lib.hid (HBW.out.trans (hw2.below.mono (by omega)))
  have B2 := Lib.hid (B0.out.below hw2.below (by omega))
  clear hw2 HX P0 P1 P4 P5 B0 HBW
  obtain ⟨⟨p0, p1, p2, p3, p4, p5, p6, p7⟩, -⟩ := B2.out.eight
  go_wp2_with fail
  refine (HHU.out _).mono ?_
  rintro e wx ⟨rfl, rfl⟩
  go_wp2_with fail
  refine (HHI.out _).mono ?_
  rintro e wx ⟨rfl, rfl⟩
  cases bh
  · go_wp2
    go_ret
    exact ⟨by simp, HB.out⟩
  go_wp2_with fail
  refine (HHU.out _).mono ?_
  rintro e wx ⟨rfl, rfl⟩
  go_wp2_with fail
  refine (HAU.out _).mono ?_
  rintro e wx ⟨rfl, rfl⟩
  go_wp2_with fail
  refine (HAU.out _).mono ?_
  rintro e wx ⟨rfl, rfl⟩
  by_cases ea : amount = 0
  rotate_left
  · go_wp2
    go_ret
    exact ⟨by first | (simp; done) | simp [ea], HB.out⟩
  subst ea
  by_cases et : ttl = 0
  rotate_left
  · go_wp2
    go_ret
    exact ⟨by first | (simp; done) | simp [et], HB.out⟩
  subst et
  go_wp2_with fail
  refine (HOI.out _).mono ?_
  rintro e wx ⟨rfl, hb⟩
  have HBZ : Hid (Below w.heap.size w wx) := Lib.hid (HB.out.trans (hb.mono (by omega)))
  have BX := B2.out.below hb (by omega)
  clear p0 p1 p2 p3 p4 p5 p6 p7 B2
  obtain ⟨⟨p0, p1, p2, p3, p4, p5, p6, p7⟩, -⟩ := BX.eight
  clear BX hb
  cases bo
  all_goals go_wp2
  all_goals go_ret
  all_goals exact ⟨by first | rfl | simp, HBZ.out⟩

set_option maxRecDepth 100000 in
set_option maxHeartbeats 8000000 in
theorem specReqOk_plain (op : Int) (acct other hold trace mti om : ByteArray) (amount ttl : Int) (w : World) (hs1 : acct.size ≤ maxLen) (hs2 : other.size ≤ maxLen) (hs3 : hold.size ≤ maxLen) (hs4 : trace.size ≤ maxLen) (hop : op = 7 ∨ op = 8) (hom : opTxt 0 op = om) (hm : mti = om) (h2 : acctIdB acct = true) (h3 : digs trace = true) (h4 : trace.size = 6) :
    Calls Tryz.prog 26 #[.agg #[.int .i64 op, .string acct, .string other, .string hold, .string trace, .string mti, .int .i64 amount, .int .i64 ttl]] w fun e w' => e = .returned (.bool (decide (hold = ⟨#[]⟩) && (decide (amount = 0) && (decide (ttl = 0) && decide (other = ⟨#[]⟩))))) ∧ Below w.heap.size w w' := by
  have HOP := Lib.hid (l11Op_any op)
  have HMT := Lib.hid (hom ▸ specOpMti_any op)
  have HAC := Lib.hid (fun V => specAcctIdOk_any acct V hs1)
  have HDG := Lib.hid (fun V => specDigits_any trace V hs4)
  have HHU := Lib.hid (l11Hold_any op)
  have HAU := Lib.hid (l11Amount_any op)
  have HHI := Lib.hid (fun V => specHoldIdOk_any hold V hs3)
  have HLA := Lib.hid (fun V => specIn_any amount 0 999999999999 V)
  have HLT := Lib.hid (fun V => specIn_any ttl 0 9999 V)
  have HOI := Lib.hid (fun V => specAcctIdOk_any other V hs2)
  have k1 : isOp op = true := decide_eq_true (by omega)
  have k2 : holdU op = false := by rw [holdU, k1]; simp; omega
  have k3 : amtU op = false := by simp [amtU]; omega
  rw [k1] at HOP
  rw [k2] at HHU
  rw [k3] at HAU
  rw [h2] at HAC
  rw [h3] at HDG
  have n1 : (op == 1) = false := by simp; omega
  have n6 : (op == 6) = false := by simp; omega
  have m1 : (op != 1) = true := by simp; omega
  have m6 : (op != 6) = true := by simp; omega
  have h6 : ((trace.size : Int) == 6) = true := by simp; omega
  clear k1 k2 k3 h2 h3 h4 hom hop hs1 hs2 hs3 hs4
  subst hm
  go_enter Tryz.func26, Tryz.ntmps26
  go_upto_region 1 with fail
  obtain ⟨W, hW⟩ : ∃ W, W = w.alloc (.cells #[.int .i64 op, .string acct, .string other, .string hold, .string trace, .string mti, .int .i64 amount, .int .i64 ttl] 27) := ⟨_, rfl⟩
  have bb : bk W w.heap.size 27 [.int .i64 op, .string acct, .string other, .string hold, .string trace, .string mti, .int .i64 amount, .int .i64 ttl] := by rw [hW]; exact bk.new w _ _
  have HBW : Hid (Below w.heap.size w W) := Lib.hid (by rw [hW]; exact (Below.refl _ _).alloc (Nat.le_refl _) _)
  rw [← hW]
  clear hW
  have z0 := bb.lt
  have B0 := Lib.hid bb
  obtain ⟨⟨p0, p1, p2, p3, p4, p5, p6, p7⟩, -⟩ := bb.eight
  have P0 := Lib.hid p0
  have P1 := Lib.hid p1
  have P4 := Lib.hid p4
  have P5 := Lib.hid p5
  clear bb p0 p1 p2 p3 p4 p5 p6 p7
  have HX : Hid (Ext W W.drew) := Lib.hid (Ext.refl W).drew
  refine quiet_region (C := Ext W) (by kernel_rfl) (by kernel_rfl) HX.out ?_
  repeat (first
    | go_big_quiet_skip
    | (go_big_quiet_want; go_big_quiet_op; go_big_quiet_on)
    | (go_big_quiet_want; go_big_quiet_op; apply Exists.intro; refine ⟨fun _ _ => rfl, ?_⟩; go_big_quiet_on)
    | (go_big_quiet_want
       apply Exists.intro
       refine ⟨fun V hV => ?_, ?_⟩
       (have p0 := hV.cell P0.out (by omega)
        have p1 := hV.cell P1.out (by omega)
        have p4 := hV.cell P4.out (by omega)
        have p5 := hV.cell P5.out (by omega)
        unfold Oper.quietAt
        go_simp
        rfl)
       simp only [Act.put, List.setIfInBounds_toArray, List.set_cons_zero, List.set_cons_succ]
       go_big_quiet_on)
    | (go_big_quiet_want
       apply Exists.intro
       refine ⟨fun V hV => ?_, ?_⟩
       (unfold Oper.quietAt
        go_simp
        go_at_call 46
        refine (HOP.out V).mono ?_
        rintro e w4 ⟨rfl, rfl⟩
        exact ⟨rfl, hV⟩)
       simp only [Act.put, List.setIfInBounds_toArray, List.set_cons_zero, List.set_cons_succ]
       go_big_quiet_on)
    | (go_big_quiet_want
       apply Exists.intro
       refine ⟨fun V hV => ?_, ?_⟩
       (unfold Oper.quietAt
        go_simp
        go_at_call 45
        refine (HMT.out V).mono ?_
        rintro e w4 ⟨rfl, hb⟩
        exact ⟨rfl, hV.step hb⟩)
       simp only [Act.put, List.setIfInBounds_toArray, List.set_cons_zero, List.set_cons_succ]
       go_big_quiet_on)
    | (go_big_quiet_want
       apply Exists.intro
       refine ⟨fun V hV => ?_, ?_⟩
       (unfold Oper.quietAt
        go_simp
        go_at_call 48
        refine (HAC.out V).mono ?_
        rintro e w4 ⟨rfl, hb⟩
        exact ⟨rfl, hV.step hb⟩)
       simp only [Act.put, List.setIfInBounds_toArray, List.set_cons_zero, List.set_cons_succ]
       go_big_quiet_on)
    | (go_big_quiet_want
       apply Exists.intro
       refine ⟨fun V hV => ?_, ?_⟩
       (unfold Oper.quietAt
        go_simp
        go_at_call 43
        refine (HDG.out V).mono ?_
        rintro e w4 ⟨rfl, rfl⟩
        exact ⟨rfl, hV⟩)
       simp only [Act.put, List.setIfInBounds_toArray, List.set_cons_zero, List.set_cons_succ]
       go_big_quiet_on)
    | fail)
  refine wpQuiet_nil ?_
  intro w2 hw2
  have z2 : W.heap.size ≤ w2.heap.size := hw2.below.size
  have HB : Hid (Below w.heap.size w w2) := Lib.hid (HBW.out.trans (hw2.below.mono (by omega)))
  have B2 := Lib.hid (B0.out.below hw2.below (by omega))
  clear hw2 HX P0 P1 P4 P5 B0 HBW
  obtain ⟨⟨p0, p1, p2, p3, p4, p5, p6, p7⟩, -⟩ := B2.out.eight
  clear B2
  go_wp2_with fail
  refine (HHU.out _).mono ?_
  rintro e wx ⟨rfl, rfl⟩
  go_wp2_with fail
  refine (HHU.out _).mono ?_
  rintro e wx ⟨rfl, rfl⟩
  by_cases ez : hold = ⟨#[]⟩
  rotate_left
  · have ez' : (hold.toList == []) = false := by have := str_no ez; simpa using this
    go_wp2
    go_ret
    exact ⟨by first | (simp; done) | simp [ez], HB.out⟩
  subst ez
  go_wp2_with fail
  refine (HAU.out _).mono ?_
  rintro e wx ⟨rfl, rfl⟩
  go_wp2_with fail
  refine (HAU.out _).mono ?_
  rintro e wx ⟨rfl, rfl⟩
  by_cases ea : amount = 0
  rotate_left
  · go_wp2
    go_ret
    exact ⟨by first | (simp; done) | simp [ea], HB.out⟩
  subst ea
  by_cases et : ttl = 0
  rotate_left
  · go_wp2
    go_ret
    exact ⟨by first | (simp; done) | simp [et], HB.out⟩
  subst et
  by_cases eo : other = ⟨#[]⟩
  · subst eo
    go_wp2
    go_ret
    exact ⟨by first | rfl | simp, HB.out⟩
  have eo' : (other.toList == []) = false := by have := str_no eo; simpa using this
  go_wp2
  go_ret
  exact ⟨by first | (simp; done) | simp [eo], HB.out⟩

end Go.Proofs.YtmojpiofdfmdgabGreatDoor
