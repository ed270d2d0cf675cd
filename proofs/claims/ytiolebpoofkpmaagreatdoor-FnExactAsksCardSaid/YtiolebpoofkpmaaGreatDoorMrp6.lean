/- ReqOk of the reference, by the operation's class; no conditions. -/
import Derived.Test.YtiolebpoofkpmaaGreatDoorMrp5
import Derived.Test.YtiolebpoofkpmaaGreatDoorMrp1
import Derived.Test.YtiolebpoofkpmaaGreatDoorMrp2
import Derived.Laws.EntriesVeiled
import Derived.Laws.Rows
set_option linter.unusedVariables false
namespace Go.Proofs.YtiolebpoofkpmaaGreatDoor
open Go.ChangeShapes Go.WideShapes Go.ChangeAt Go.RowKit

set_option maxRecDepth 100000 in
set_option maxHeartbeats 8000000 in
theorem specReqOk_auth (op : Int) (acct other hold trace mti om : ByteArray) (amount ttl : Int) (w : World) (hs1 : acct.size ≤ maxLen) (hs2 : other.size ≤ maxLen) (hs3 : hold.size ≤ maxLen) (hs4 : trace.size ≤ maxLen) (hop : op = 1) (hom : opTxt 0 op = om) (hm : mti = om) (h2 : acctIdB acct = true) (h3 : digs trace = true) (h4 : trace.size = 6) :
    Calls Tryz.prog 29 #[.agg #[.int .i64 op, .string acct, .string other, .string hold, .string trace, .string mti, .int .i64 amount, .int .i64 ttl]] w fun e w' => e = .returned (.bool (idOk hold && (decide (0 ≤ amount ∧ amount ≤ 999999999999) && (decide (0 ≤ ttl ∧ ttl ≤ 9999) && decide (other = ⟨#[]⟩))))) ∧ Below w.heap.size w w' := by
  have HOP := Lib.hid (l11Op_any op)
  have HMT := Lib.hid (hom ▸ specOpMti_any op)
  have HAC := Lib.hid (fun V => specAcctIdOk_any acct V hs1)
  have HDG := Lib.hid (fun V => specDigits_any trace V hs4)
  subst hop
  have HHU := Lib.hid (l11Hold_any 1)
  have HAU := Lib.hid (l11Amount_any 1)
  have HHI := Lib.hid (fun V => specHoldIdOk_any hold V hs3)
  have HLA := Lib.hid (fun V => specIn_any amount 0 999999999999 V)
  have HLT := Lib.hid (fun V => specIn_any ttl 0 9999 V)
  have HOI := Lib.hid (fun V => specAcctIdOk_any other V hs2)
  have k1 : isOp 1 = true := by decide
  have k2 : holdU 1 = true := by decide
  have k3 : amtU 1 = true := by decide
  rw [k1] at HOP
  rw [k2] at HHU
  rw [k3] at HAU
  rw [h2] at HAC
  rw [h3] at HDG
  have h6 : ((trace.size : Int) == 6) = true := by simp; omega
  clear k1 k2 k3 h2 h3 h4 hom hs1 hs2 hs3 hs4
  subst hm
  generalize idOk hold = bh at HHI ⊢
  generalize decide (0 ≤ amount ∧ amount ≤ 999999999999) = ba at HLA ⊢
  generalize decide (0 ≤ ttl ∧ ttl ≤ 9999) = bt at HLT ⊢
  go_enter Tryz.func29, Tryz.ntmps29
  go_upto_region 1 with fail
  obtain ⟨W, hW⟩ : ∃ W, W = w.alloc (.cells #[.int .i64 1, .string acct, .string other, .string hold, .string trace, .string mti, .int .i64 amount, .int .i64 ttl] 37) := ⟨_, rfl⟩
  have bb : bk W w.heap.size 37 [.int .i64 1, .string acct, .string other, .string hold, .string trace, .string mti, .int .i64 amount, .int .i64 ttl] := by rw [hW]; exact bk.new w _ _
  have HBW : Hid (Below w.heap.size w W) := Lib.hid (by rw [hW]; exact (Below.refl _ _).alloc (Nat.le_refl _) _)
  rw [← hW]
  clear hW
  have z0 := bb.lt
  have B0 := Lib.hid bb
  obtain ⟨⟨p0, p1, p2, p3, p4, p5, p6, p7⟩, -⟩ := bb.eight
  have P0 := Lib.hid p0
  have P1 := Lib.hid p1
  have P4 := Lib.hid p4
  have P5 := Lib.hid p5
  clear bb p0 p1 p2 p3 p4 p5 p6 p7
  have HX : Hid (Ext W W.drew) := Lib.hid (Ext.refl W).drew
  refine quiet_region (C := Ext W) (by kernel_rfl) (by kernel_rfl) HX.out ?_
  repeat (first
    | go_big_quiet_skip
    | (go_big_quiet_want; go_big_quiet_op; go_big_quiet_on)
    | (go_big_quiet_want; go_big_quiet_op; apply Exists.intro; refine ⟨fun _ _ => rfl, ?_⟩; go_big_quiet_on)
    | (go_big_quiet_want
       apply Exists.intro
       refine ⟨fun V hV => ?_, ?_⟩
       (have p0 := hV.cell P0.out (by omega)
        have p1 := hV.cell P1.out (by omega)
        have p4 := hV.cell P4.out (by omega)
        have p5 := hV.cell P5.out (by omega)
        unfold Oper.quietAt
        go_simp
        rfl)
       simp only [Act.put, List.setIfInBounds_toArray, List.set_cons_zero, List.set_cons_succ]
       go_big_quiet_on)
    | (go_big_quiet_want
       apply Exists.intro
       refine ⟨fun V hV => ?_, ?_⟩
       (unfold Oper.quietAt
        go_simp
        go_at_call 49
        refine (HOP.out V).mono ?_
        rintro e w4 ⟨rfl, rfl⟩
        exact ⟨rfl, hV⟩)
       simp only [Act.put, List.setIfInBounds_toArray, List.set_cons_zero, List.set_cons_succ]
       go_big_quiet_on)
    | (go_big_quiet_want
       apply Exists.intro
       refine ⟨fun V hV => ?_, ?_⟩
       (unfold Oper.quietAt
        go_simp
        go_at_call 47
        refine (HMT.out V).mono ?_
        rintro e w4 ⟨rfl, hb⟩
        exact ⟨rfl, hV.step hb⟩)
       simp only [Act.put, List.setIfInBounds_toArray, List.set_cons_zero, List.set_cons_succ]
       go_big_quiet_on)
    | (go_big_quiet_want
       apply Exists.intro
       refine ⟨fun V hV => ?_, ?_⟩
       (unfold Oper.quietAt
        go_simp
        go_at_call 50
        refine (HAC.out V).mono ?_
        rintro e w4 ⟨rfl, hb⟩
        exact ⟨rfl, hV.step hb⟩)
       simp only [Act.put, List.setIfInBounds_toArray, List.set_cons_zero, List.set_cons_succ]
       go_big_quiet_on)
    | (go_big_quiet_want
       apply Exists.intro
       refine ⟨fun V hV => ?_, ?_⟩
       (unfold Oper.quietAt
        go_simp
        go_at_call 38
        refine (HDG.out V).mono ?_
        rintro e w4 ⟨rfl, rfl⟩
        exact ⟨rfl, hV⟩)
       simp only [Act.put, List.setIfInBounds_toArray, List.set_cons_zero, List.set_cons_succ]
       go_big_quiet_on)
    | fail)
  refine wpQuiet_nil ?_
  intro w2 hw2
  have z2 : W.heap.size ≤ w2.heap.size := hw2.below.size
  have HB : Hid (Below w.heap.size w w2) := Lib.hid (HBW.out.trans (hw2.below.mono (by omega)))
  have B2 := Lib.hid (B0.out.below hw2.below (by omega))
  clear hw2 HX P0 P1 P4 P5 B0 HBW
  obtain ⟨⟨p0, p1, p2, p3, p4, p5, p6, p7⟩, -⟩ := B2.out.eight
  clear B2
  go_wp2_with fail
  refine (HHU.out _).mono ?_
  rintro e wx ⟨rfl, rfl⟩
  go_wp2_with fail
  refine (HHI.out _).mono ?_
  rintro e wx ⟨rfl, rfl⟩
  cases bh
  · go_wp2
    go_ret
    exact ⟨by simp, HB.out⟩
  go_wp2_with fail
  refine (HHU.out _).mono ?_
  rintro e wx ⟨rfl, rfl⟩
  go_wp2_with fail
  refine (HAU.out _).mono ?_
  rintro e wx ⟨rfl, rfl⟩
  go_wp2_with fail
  refine (HLA.out _).mono ?_
  rintro e wx ⟨rfl, rfl⟩
  cases ba
  · go_wp2
    go_ret
    exact ⟨by simp, HB.out⟩
  go_wp2_with fail
  refine (HAU.out _).mono ?_
  rintro e wx ⟨rfl, rfl⟩
  go_wp2_with fail
  refine (HLT.out _).mono ?_
  rintro e wx ⟨rfl, rfl⟩
  cases bt
  · go_wp2
    go_ret
    exact ⟨by simp, HB.out⟩
  by_cases eo : other = ⟨#[]⟩
  · subst eo
    go_wp2
    go_ret
    exact ⟨by first | rfl | simp, HB.out⟩
  have eo' : (other.toList == []) = false := by have := str_no eo; simpa using this
  go_wp2
  go_ret
  exact ⟨by first | (simp; done) | simp [eo], HB.out⟩

set_option maxRecDepth 100000 in
set_option maxHeartbeats 8000000 in
theorem specReqOk_amt (op : Int) (acct other hold trace mti om : ByteArray) (amount ttl : Int) (w : World) (hs1 : acct.size ≤ maxLen) (hs2 : other.size ≤ maxLen) (hs3 : hold.size ≤ maxLen) (hs4 : trace.size ≤ maxLen) (hop : op = 2 ∨ op = 3 ∨ op = 4) (hom : opTxt 0 op = om) (hm : mti = om) (h2 : acctIdB acct = true) (h3 : digs trace = true) (h4 : trace.size = 6) :
    Calls Tryz.prog 29 #[.agg #[.int .i64 op, .string acct, .string other, .string hold, .string trace, .string mti, .int .i64 amount, .int .i64 ttl]] w fun e w' => e = .returned (.bool (idOk hold && (decide (0 ≤ amount ∧ amount ≤ 999999999999) && (decide (ttl = 0) && decide (other = ⟨#[]⟩))))) ∧ Below w.heap.size w w' := by
  have HOP := Lib.hid (l11Op_any op)
  have HMT := Lib.hid (hom ▸ specOpMti_any op)
  have HAC := Lib.hid (fun V => specAcctIdOk_any acct V hs1)
  have HDG := Lib.hid (fun V => specDigits_any trace V hs4)
  have HHU := Lib.hid (l11Hold_any op)
  have HAU := Lib.hid (l11Amount_any op)
  have HHI := Lib.hid (fun V => specHoldIdOk_any hold V hs3)
  have HLA := Lib.hid (fun V => specIn_any amount 0 999999999999 V)
  have HLT := Lib.hid (fun V => specIn_any ttl 0 9999 V)
  have HOI := Lib.hid (fun V => specAcctIdOk_any other V hs2)
  have k1 : isOp op = true := decide_eq_true (by omega)
  have k2 : holdU op = true := by rw [holdU, k1]; simp; omega
  have k3 : amtU op = true := by simp [amtU]; omega
  rw [k1] at HOP
  rw [k2] at HHU
  rw [k3] at HAU
  rw [h2] at HAC
  rw [h3] at HDG
  have n1 : (op == 1) = false := by simp; omega
  have n6 : (op == 6) = false := by simp; omega
  have m1 : (op != 1) = true := by simp; omega
  have m6 : (op != 6) = true := by simp; omega
  have h6 : ((trace.size : Int) == 6) = true := by simp; omega
  clear k1 k2 k3 h2 h3 h4 hom hop hs1 hs2 hs3 hs4
  subst hm
  generalize idOk hold = bh at HHI ⊢
  generalize decide (0 ≤ amount ∧ amount ≤ 999999999999) = ba at HLA ⊢
  go_enter Tryz.func29, Tryz.ntmps29
  go_upto_region 1 with fail
  obtain ⟨W, hW⟩ : ∃ W, W = w.alloc (.cells #[.int .i64 op, .string acct, .string other, .string hold, .string trace, .string mti, .int .i64 amount, .int .i64 ttl] 37) := ⟨_, rfl⟩
  have bb : bk W w.heap.size 37 [.int .i64 op, .string acct, .string other, .string hold, .string trace, .string mti, .int .i64 amount, .int .i64 ttl] := by rw [hW]; exact bk.new w _ _
  have HBW : Hid (Below w.heap.size w W) := Lib.hid (by rw [hW]; exact (Below.refl _ _).alloc (Nat.le_refl _) _)
  rw [← hW]
  clear hW
  have z0 := bb.lt
  have B0 := Lib.hid bb
  obtain ⟨⟨p0, p1, p2, p3, p4, p5, p6, p7⟩, -⟩ := bb.eight
  have P0 := Lib.hid p0
  have P1 := Lib.hid p1
  have P4 := Lib.hid p4
  have P5 := Lib.hid p5
  clear bb p0 p1 p2 p3 p4 p5 p6 p7
  have HX : Hid (Ext W W.drew) := Lib.hid (Ext.refl W).drew
  refine quiet_region (C := Ext W) (by kernel_rfl) (by kernel_rfl) HX.out ?_
  repeat (first
    | go_big_quiet_skip
    | (go_big_quiet_want; go_big_quiet_op; go_big_quiet_on)
    | (go_big_quiet_want; go_big_quiet_op; apply Exists.intro; refine ⟨fun _ _ => rfl, ?_⟩; go_big_quiet_on)
    | (go_big_quiet_want
       apply Exists.intro
       refine ⟨fun V hV => ?_, ?_⟩
       (have p0 := hV.cell P0.out (by omega)
        have p1 := hV.cell P1.out (by omega)
        have p4 := hV.cell P4.out (by omega)
        have p5 := hV.cell P5.out (by omega)
        unfold Oper.quietAt
        go_simp
        rfl)
       simp only [Act.put, List.setIfInBounds_toArray, List.set_cons_zero, List.set_cons_succ]
       go_big_quiet_on)
    | (go_big_quiet_want
       apply Exists.intro
       refine ⟨fun V hV => ?_, ?_⟩
       (unfold Oper.quietAt
        go_simp
        go_at_call 49
        refine (HOP.out V).mono ?_
        rintro e w4 ⟨rfl, rfl⟩
        exact ⟨rfl, hV⟩)
       simp only [Act.put, List.setIfInBounds_toArray, List.set_cons_zero, List.set_cons_succ]
       go_big_quiet_on)
    | (go_big_quiet_want
       apply Exists.intro
       refine ⟨fun V hV => ?_, ?_⟩
       (unfold Oper.quietAt
        go_simp
        go_at_call 47
        refine (HMT.out V).mono ?_
        rintro e w4 ⟨rfl, hb⟩
        exact ⟨rfl, hV.step hb⟩)
       simp only [Act.put, List.setIfInBounds_toArray, List.set_cons_zero, List.set_cons_succ]
       go_big_quiet_on)
    | (go_big_quiet_want
       apply Exists.intro
       refine ⟨fun V hV => ?_, ?_⟩
       (unfold Oper.quietAt
        go_simp
        go_at_call 50
        refine (HAC.out V).mono ?_
        rintro e w4 ⟨rfl, hb⟩
        exact ⟨rfl, hV.step hb⟩)
       simp only [Act.put, List.setIfInBounds_toArray, List.set_cons_zero, List.set_cons_succ]
       go_big_quiet_on)
    | (go_big_quiet_want
       apply Exists.intro
       refine ⟨fun V hV => ?_, ?_⟩
       (unfold Oper.quietAt
        go_simp
        go_at_call 38
        refine (HDG.out V).mono ?_
        rintro e w4 ⟨rfl, rfl⟩
        exact ⟨rfl, hV⟩)
       simp only [Act.put, List.setIfInBounds_toArray, List.set_cons_zero, List.set_cons_succ]
       go_big_quiet_on)
    | fail)
  refine wpQuiet_nil ?_
  intro w2 hw2
  have z2 : W.heap.size ≤ w2.heap.size := hw2.below.size
  have HB : Hid (Below w.heap.size w w2) := Lib.hid (HBW.out.trans (hw2.below.mono (by omega)))
  have B2 := Lib.hid (B0.out.below hw2.below (by omega))
  clear hw2 HX P0 P1 P4 P5 B0 HBW
  obtain ⟨⟨p0, p1, p2, p3, p4, p5, p6, p7⟩, -⟩ := B2.out.eight
  clear B2
  go_wp2_with fail
  refine (HHU.out _).mono ?_
  rintro e wx ⟨rfl, rfl⟩
  go_wp2_with fail
  refine (HHI.out _).mono ?_
  rintro e wx ⟨rfl, rfl⟩
  cases bh
  · go_wp2
    go_ret
    exact ⟨by simp, HB.out⟩
  go_wp2_with fail
  refine (HHU.out _).mono ?_
  rintro e wx ⟨rfl, rfl⟩
  go_wp2_with fail
  refine (HAU.out _).mono ?_
  rintro e wx ⟨rfl, rfl⟩
  go_wp2_with fail
  refine (HLA.out _).mono ?_
  rintro e wx ⟨rfl, rfl⟩
  cases ba
  · go_wp2
    go_ret
    exact ⟨by simp, HB.out⟩
  go_wp2_with fail
  refine (HAU.out _).mono ?_
  rintro e wx ⟨rfl, rfl⟩
  by_cases et : ttl = 0
  rotate_left
  · go_wp2
    go_ret
    exact ⟨by first | (simp; done) | simp [et], HB.out⟩
  subst et
  by_cases eo : other = ⟨#[]⟩
  · subst eo
    go_wp2
    go_ret
    exact ⟨by first | rfl | simp, HB.out⟩
  have eo' : (other.toList == []) = false := by have := str_no eo; simpa using this
  go_wp2
  go_ret
  exact ⟨by first | (simp; done) | simp [eo], HB.out⟩

set_option maxRecDepth 100000 in
set_option maxHeartbeats 8000000 in
theorem specReqOk_free (op : Int) (acct other hold trace mti om : ByteArray) (amount ttl : Int) (w : World) (hs1 : acct.size ≤ maxLen) (hs2 : other.size ≤ maxLen) (hs3 : hold.size ≤ maxLen) (hs4 : trace.size ≤ maxLen) (hop : op = 5) (hom : opTxt 0 op = om) (hm : mti = om) (h2 : acctIdB acct = true) (h3 : digs trace = true) (h4 : trace.size = 6) :
    Calls Tryz.prog 29 #[.agg #[.int .i64 op, .string acct, .string other, .string hold, .string trace, .string mti, .int .i64 amount, .int .i64 ttl]] w fun e w' => e = .returned (.bool (idOk hold && (decide (amount = 0) && (decide (ttl = 0) && decide (other = ⟨#[]⟩))))) ∧ Below w.heap.size w w' := by
  have HOP := Lib.hid (l11Op_any op)
  have HMT := Lib.hid (hom ▸ specOpMti_any op)
  have HAC := Lib.hid (fun V => specAcctIdOk_any acct V hs1)
  have HDG := Lib.hid (fun V => specDigits_any trace V hs4)
  subst hop
  have HHU := Lib.hid (l11Hold_any 5)
  have HAU := Lib.hid (l11Amount_any 5)
  have HHI := Lib.hid (fun V => specHoldIdOk_any hold V hs3)
  have HLA := Lib.hid (fun V => specIn_any amount 0 999999999999 V)
  have HLT := Lib.hid (fun V => specIn_any ttl 0 9999 V)
  have HOI := Lib.hid (fun V => specAcctIdOk_any other V hs2)
  have k1 : isOp 5 = true := by decide
  have k2 : holdU 5 = true := by decide
  have k3 : amtU 5 = false := by decide
  rw [k1] at HOP
  rw [k2] at HHU
  rw [k3] at HAU
  rw [h2] at HAC
  rw [h3] at HDG
  have h6 : ((trace.size : Int) == 6) = true := by simp; omega
  clear k1 k2 k3 h2 h3 h4 hom hs1 hs2 hs3 hs4
  subst hm
  generalize idOk hold = bh at HHI ⊢
  go_enter Tryz.func29, Tryz.ntmps29
  go_upto_region 1 with fail
  obtain ⟨W, hW⟩ : ∃ W, W = w.alloc (.cells #[.int .i64 5, .string acct, .string other, .string hold, .string trace, .string mti, .int .i64 amount, .int .i64 ttl] 37) := ⟨_, rfl⟩
  have bb : bk W w.heap.size 37 [.int .i64 5, .string acct, .string other, .string hold, .string trace, .string mti, .int .i64 amount, .int .i64 ttl] := by rw [hW]; exact bk.new w _ _
  have HBW : Hid (Below w.heap.size w W) := Lib.hid (by rw [hW]; exact (Below.refl _ _).alloc (Nat.le_refl _) _)
  rw [← hW]
  clear hW
  have z0 := bb.lt
  have B0 := Lib.hid bb
  obtain ⟨⟨p0, p1, p2, p3, p4, p5, p6, p7⟩, -⟩ := bb.eight
  have P0 := Lib.hid p0
  have P1 := Lib.hid p1
  have P4 := Lib.hid p4
  have P5 := Lib.hid p5
  clear bb p0 p1 p2 p3 p4 p5 p6 p7
  have HX : Hid (Ext W W.drew) := Lib.hid (Ext.refl W).drew
  refine quiet_region (C := Ext W) (by kernel_rfl) (by kernel_rfl) HX.out ?_
  repeat (first
    | go_big_quiet_skip
    | (go_big_quiet_want; go_big_quiet_op; go_big_quiet_on)
    | (go_big_quiet_want; go_big_quiet_op; apply Exists.intro; refine ⟨fun _ _ => rfl, ?_⟩; go_big_quiet_on)
    | (go_big_quiet_want
       apply Exists.intro
       refine ⟨fun V hV => ?_, ?_⟩
       (have p0 := hV.cell P0.out (by omega)
        have p1 := hV.cell P1.out (by omega)
        have p4 := hV.cell P4.out (by omega)
        have p5 := hV.cell P5.out (by omega)
        unfold Oper.quietAt
        go_simp
        rfl)
       simp only [Act.put, List.setIfInBounds_toArray, List.set_cons_zero, List.set_cons_succ]
       go_big_quiet_on)
    | (go_big_quiet_want
       apply Exists.intro
       refine ⟨fun V hV => ?_, ?_⟩
       (unfold Oper.quietAt
        go_simp
        go_at_call 49
        refine (HOP.out V).mono ?_
        rintro e w4 ⟨rfl, rfl⟩
        exact ⟨rfl, hV⟩)
       simp only [Act.put, List.setIfInBounds_toArray, List.set_cons_zero, List.set_cons_succ]
       go_big_quiet_on)
    | (go_big_quiet_want
       apply Exists.intro
       refine ⟨fun V hV => ?_, ?_⟩
       (unfold Oper.quietAt
        go_simp
        go_at_call 47
        refine (HMT.out V).mono ?_
        rintro e w4 ⟨rfl, hb⟩
        exact ⟨rfl, hV.step hb⟩)
       simp only [Act.put, List.setIfInBounds_toArray, List.set_cons_zero, List.set_cons_succ]
       go_big_quiet_on)
    | (go_big_quiet_want
       apply Exists.intro
       refine ⟨fun V hV => ?_, ?_⟩
       (unfold Oper.quietAt
        go_simp
        go_at_call 50
        refine (HAC.out V).mono ?_
        rintro e w4 ⟨rfl, hb⟩
        exact ⟨rfl, hV.step hb⟩)
       simp only [Act.put, List.setIfInBounds_toArray, List.set_cons_zero, List.set_cons_succ]
       go_big_quiet_on)
    | (go_big_quiet_want
       apply Exists.intro
       refine ⟨fun V hV => ?_, ?_⟩
       (unfold Oper.quietAt
        go_simp
        go_at_call 38
        refine (HDG.out V).mono ?_
        rintro e w4 ⟨rfl, rfl⟩
        exact ⟨rfl, hV⟩)
       simp only [Act.put, List.setIfInBounds_toArray, List.set_cons_zero, List.set_cons_succ]
       go_big_quiet_on)
    | fail)
  refine wpQuiet_nil ?_
  intro w2 hw2
  have z2 : W.heap.size ≤ w2.heap.size := hw2.below.size
  have HB : Hid (Below w.heap.size w w2) := Lib.hid (HBW.out.trans (hw2.below.mono (by omega)))
  have B2 := Lib.hid (B0.out.below hw2.below (by omega))
  clear hw2 HX P0 P1 P4 P5 B0 HBW
  obtain ⟨⟨p0, p1, p2, p3, p4, p5, p6, p7⟩, -⟩ := B2.out.eight
  clear B2
  go_wp2_with fail
  refine (HHU.out _).mono ?_
  rintro e wx ⟨rfl, rfl⟩
  go_wp2_with fail
  refine (HHI.out _).mono ?_
  rintro e wx ⟨rfl, rfl⟩
  cases bh
  · go_wp2
    go_ret
    exact ⟨by simp, HB.out⟩
  go_wp2_with fail
  refine (HHU.out _).mono ?_
  rintro e wx ⟨rfl, rfl⟩
  go_wp2_with fail
  refine (HAU.out _).mono ?_
  rintro e wx ⟨rfl, rfl⟩
  go_wp2_with fail
  refine (HAU.out _).mono ?_
  rintro e wx ⟨rfl, rfl⟩
  by_cases ea : amount = 0
  rotate_left
  · go_wp2
    go_ret
    exact ⟨by first | (simp; done) | simp [ea], HB.out⟩
  subst ea
  by_cases et : ttl = 0
  rotate_left
  · go_wp2
    go_ret
    exact ⟨by first | (simp; done) | simp [et], HB.out⟩
  subst et
  by_cases eo : other = ⟨#[]⟩
  · subst eo
    go_wp2
    go_ret
    exact ⟨by first | rfl | simp, HB.out⟩
  have eo' : (other.toList == []) = false := by have := str_no eo; simpa using this
  go_wp2
  go_ret
  exact ⟨by first | (simp; done) | simp [eo], HB.out⟩

set_option maxRecDepth 100000 in
set_option maxHeartbeats 8000000 in
theorem specReqOk_move (op : Int) (acct other hold trace mti om : ByteArray) (amount ttl : Int) (w : World) (hs1 : acct.size ≤ maxLen) (hs2 : other.size ≤ maxLen) (hs3 : hold.size ≤ maxLen) (hs4 : trace.size ≤ maxLen) (hop : op = 6) (hom : opTxt 0 op = om) (hm : mti = om) (h2 : acctIdB acct = true) (h3 : digs trace = true) (h4 : trace.size = 6) :
    Calls Tryz.prog 29 #[.agg #[.int .i64 op, .string acct, .string other, .string hold, .string trace, .string mti, .int .i64 amount, .int .i64 ttl]] w fun e w' => e = .returned (.bool (idOk hold && (decide (amount = 0) && (decide (ttl = 0) && acctIdB other)))) ∧ Below w.heap.size w w' := by
  have HOP := Lib.hid (l11Op_any op)
  have HMT := Lib.hid (hom ▸ specOpMti_any op)
  have HAC := Lib.hid (fun V => specAcctIdOk_any acct V hs1)
  have HDG := Lib.hid (fun V => specDigits_any trace V hs4)
  subst hop
  have HHU := Lib.hid (l11Hold_any 6)
  have HAU := Lib.hid (l11Amount_any 6)
  have HHI := Lib.hid (fun V => specHoldIdOk_any hold V hs3)
  have HLA := Lib.hid (fun V => specIn_any amount 0 999999999999 V)
  have HLT := Lib.hid (fun V => specIn_any ttl 0 9999 V)
  have HOI := Lib.hid (fun V => specAcctIdOk_any other V hs2)
  have k1 : isOp 6 = true := by decide
  have k2 : holdU 6 = true := by decide
  have k3 : amtU 6 = false := by decide
  rw [k1] at HOP
  rw [k2] at HHU
  rw [k3] at HAU
  rw [h2] at HAC
  rw [h3] at HDG
  have h6 : ((trace.size : Int) == 6) = true := by simp; omega
  clear k1 k2 k3 h2 h3 h4 hom hs1 hs2 hs3 hs4
  subst hm
  generalize idOk hold = bh at HHI ⊢
  generalize acctIdB other = bo at HOI ⊢
  go_enter Tryz.func29, Tryz.ntmps29
  go_upto_region 1 with fail
  obtain ⟨W, hW⟩ : ∃ W, W = w.alloc (.cells #[.int .i64 6, .string acct, .string other, .string hold, .string trace, .string mti, .int .i64 amount, .int .i64 ttl] 37) := ⟨_, rfl⟩
  have bb : bk W w.heap.size 37 [.int .i64 6, .string acct, .string other, .string hold, .string trace, .string mti, .int .i64 amount, .int .i64 ttl] := by rw [hW]; exact bk.new w _ _
  have HBW : Hid (Below w.heap.size w W) := Lib.hid (by rw [hW]; exact (Below.refl _ _).alloc (Nat.le_refl _) _)
  rw [← hW]
  clear hW
  have z0 := bb.lt
  have B0 := Lib.hid bb
  obtain ⟨⟨p0, p1, p2, p3, p4, p5, p6, p7⟩, -⟩ := bb.eight
  have P0 := Lib.hid p0
  have P1 := Lib.hid p1
  have P4 := Lib.hid p4
  have P5 := Lib.hid p5
  clear bb p0 p1 p2 p3 p4 p5 p6 p7
  have HX : Hid (Ext W W.drew) := Lib.hid (Ext.refl W).drew
  refine quiet_region (C := Ext W) (by kernel_rfl) (by kernel_rfl) HX.out ?_
  repeat (first
    | go_big_quiet_skip
    | (go_big_quiet_want; go_big_quiet_op; go_big_quiet_on)
    | (go_big_quiet_want; go_big_quiet_op; apply Exists.intro; refine ⟨fun _ _ => rfl, ?_⟩; go_big_quiet_on)
    | (go_big_quiet_want
       apply Exists.intro
       refine ⟨fun V hV => ?_, ?_⟩
       (have p0 := hV.cell P0.out (by omega)
        have p1 := hV.cell P1.out (by omega)
        have p4 := hV.cell P4.out (by omega)
        have p5 := hV.cell P5.out (by omega)
        unfold Oper.quietAt
        go_simp
        rfl)
       simp only [Act.put, List.setIfInBounds_toArray, List.set_cons_zero, List.set_cons_succ]
       go_big_quiet_on)
    | (go_big_quiet_want
       apply Exists.intro
       refine ⟨fun V hV => ?_, ?_⟩
       (unfold Oper.quietAt
        go_simp
        go_at_call 49
        refine (HOP.out V).mono ?_
        rintro e w4 ⟨rfl, rfl⟩
        exact ⟨rfl, hV⟩)
       simp only [Act.put, List.setIfInBounds_toArray, List.set_cons_zero, List.set_cons_succ]
       go_big_quiet_on)
    | (go_big_quiet_want
       apply Exists.intro
       refine ⟨fun V hV => ?_, ?_⟩
       (unfold Oper.quietAt
        go_simp
        go_at_call 47
        refine (HMT.out V).mono ?_
        rintro e w4 ⟨rfl, hb⟩
        exact ⟨rfl, hV.step hb⟩)
       simp only [Act.put, List.setIfInBounds_toArray, List.set_cons_zero, List.set_cons_succ]
       go_big_quiet_on)
    | (go_big_quiet_want
       apply Exists.intro
       refine ⟨fun V hV => ?_, ?_⟩
       (unfold Oper.quietAt
        go_simp
        go_at_call 50
        refine (HAC.out V).mono ?_
        rintro e w4 ⟨rfl, hb⟩
        exact ⟨rfl, hV.step hb⟩)
       simp only [Act.put, List.setIfInBounds_toArray, List.set_cons_zero, List.set_cons_succ]
       go_big_quiet_on)
    | (go_big_quiet_want
       apply Exists.intro
       refine ⟨fun V hV => ?_, ?_⟩
       (unfold Oper.quietAt
        go_simp
        go_at_call 38
        refine (HDG.out V).mono ?_
        rintro e w4 ⟨rfl, rfl⟩
        exact ⟨rfl, hV⟩)
       simp only [Act.put, List.setIfInBounds_toArray, List.set_cons_zero, List.set_cons_succ]
       go_big_quiet_on)
    | fail)
  refine wpQuiet_nil ?_
  intro w2 hw2
  have z2 : W.heap.size ≤ w2.heap.size := hw2.below.size
  have HB : Hid (Below w.heap.size w w2) := Lib.hid (HBW.out.trans (hw2.below.mono (by omega)))
  have B2 := Lib.hid (B0.out.below hw2.below (by omega))
  clear hw2 HX P0 P1 P4 P5 B0 HBW
  obtain ⟨⟨p0, p1, p2, p3, p4, p5, p6, p7⟩, -⟩ := B2.out.eight
  go_wp2_with fail
  refine (HHU.out _).mono ?_
  rintro e wx ⟨rfl, rfl⟩
  go_wp2_with fail
  refine (HHI.out _).mono ?_
  rintro e wx ⟨rfl, rfl⟩
  cases bh
  · go_wp2
    go_ret
    exact ⟨by simp, HB.out⟩
  go_wp2_with fail
  refine (HHU.out _).mono ?_
  rintro e wx ⟨rfl, rfl⟩
  go_wp2_with fail
  refine (HAU.out _).mono ?_
  rintro e wx ⟨rfl, rfl⟩
  go_wp2_with fail
  refine (HAU.out _).mono ?_
  rintro e wx ⟨rfl, rfl⟩
  by_cases ea : amount = 0
  rotate_left
  · go_wp2
    go_ret
    exact ⟨by first | (simp; done) | simp [ea], HB.out⟩
  subst ea
  by_cases et : ttl = 0
  rotate_left
  · go_wp2
    go_ret
    exact ⟨by first | (simp; done) | simp [et], HB.out⟩
  subst et
  go_wp2_with fail
  refine (HOI.out _).mono ?_
  rintro e wx ⟨rfl, hb⟩
  have HBZ : Hid (Below w.heap.size w wx) := Lib.hid (HB.out.trans (hb.mono (by omega)))
  have BX := B2.out.below hb (by omega)
  clear p0 p1 p2 p3 p4 p5 p6 p7 B2
  obtain ⟨⟨p0, p1, p2, p3, p4, p5, p6, p7⟩, -⟩ := BX.eight
  clear BX hb
  cases bo
  all_goals go_wp2
  all_goals go_ret
  all_goals exact ⟨by first | rfl | simp, HBZ.out⟩

set_option maxRecDepth 100000 in
set_option maxHeartbeats 8000000 in
theorem specReqOk_plain (op : Int) (acct other hold trace mti om : ByteArray) (amount ttl : Int) (w : World) (hs1 : acct.size ≤ maxLen) (hs2 : other.size ≤ maxLen) (hs3 : hold.size ≤ maxLen) (hs4 : trace.size ≤ maxLen) (hop : op = 7 ∨ op = 8) (hom : opTxt 0 op = om) (hm : mti = om) (h2 : acctIdB acct = true) (h3 : digs trace = true) (h4 : trace.size = 6) :
    Calls Tryz.prog 29 #[.agg #[.int .i64 op, .string acct, .string other, .string hold, .string trace, .string mti, .int .i64 amount, .int .i64 ttl]] w fun e w' => e = .returned (.bool (decide (hold = ⟨#[]⟩) && (decide (amount = 0) && (decide (ttl = 0) && decide (other = ⟨#[]⟩))))) ∧ Below w.heap.size w w' := by
  have HOP := Lib.hid (l11Op_any op)
  have HMT := Lib.hid (hom ▸ specOpMti_any op)
  have HAC := Lib.hid (fun V => specAcctIdOk_any acct V hs1)
  have HDG := Lib.hid (fun V => specDigits_any trace V hs4)
  have HHU := Lib.hid (l11Hold_any op)
  have HAU := Lib.hid (l11Amount_any op)
  have HHI := Lib.hid (fun V => specHoldIdOk_any hold V hs3)
  have HLA := Lib.hid (fun V => specIn_any amount 0 999999999999 V)
  have HLT := Lib.hid (fun V => specIn_any ttl 0 9999 V)
  have HOI := Lib.hid (fun V => specAcctIdOk_any other V hs2)
  have k1 : isOp op = true := decide_eq_true (by omega)
  have k2 : holdU op = false := by rw [holdU, k1]; simp; omega
  have k3 : amtU op = false := by simp [amtU]; omega
  rw [k1] at HOP
  rw [k2] at HHU
  rw [k3] at HAU
  rw [h2] at HAC
  rw [h3] at HDG
  have n1 : (op == 1) = false := by simp; omega
  have n6 : (op == 6) = false := by simp; omega
  have m1 : (op != 1) = true := by simp; omega
  have m6 : (op != 6) = true := by simp; omega
  have h6 : ((trace.size : Int) == 6) = true := by simp; omega
  clear k1 k2 k3 h2 h3 h4 hom hop hs1 hs2 hs3 hs4
  subst hm
  go_enter Tryz.func29, Tryz.ntmps29
  go_upto_region 1 with fail
  obtain ⟨W, hW⟩ : ∃ W, W = w.alloc (.cells #[.int .i64 op, .string acct, .string other, .string hold, .string trace, .string mti, .int .i64 amount, .int .i64 ttl] 37) := ⟨_, rfl⟩
  have bb : bk W w.heap.size 37 [.int .i64 op, .string acct, .string other, .string hold, .string trace, .string mti, .int .i64 amount, .int .i64 ttl] := by rw [hW]; exact bk.new w _ _
  have HBW : Hid (Below w.heap.size w W) := Lib.hid (by rw [hW]; exact (Below.refl _ _).alloc (Nat.le_refl _) _)
  rw [← hW]
  clear hW
  have z0 := bb.lt
  have B0 := Lib.hid bb
  obtain ⟨⟨p0, p1, p2, p3, p4, p5, p6, p7⟩, -⟩ := bb.eight
  have P0 := Lib.hid p0
  have P1 := Lib.hid p1
  have P4 := Lib.hid p4
  have P5 := Lib.hid p5
  clear bb p0 p1 p2 p3 p4 p5 p6 p7
  have HX : Hid (Ext W W.drew) := Lib.hid (Ext.refl W).drew
  refine quiet_region (C := Ext W) (by kernel_rfl) (by kernel_rfl) HX.out ?_
  repeat (first
    | go_big_quiet_skip
    | (go_big_quiet_want; go_big_quiet_op; go_big_quiet_on)
    | (go_big_quiet_want; go_big_quiet_op; apply Exists.intro; refine ⟨fun _ _ => rfl, ?_⟩; go_big_quiet_on)
    | (go_big_quiet_want
       apply Exists.intro
       refine ⟨fun V hV => ?_, ?_⟩
       (have p0 := hV.cell P0.out (by omega)
        have p1 := hV.cell P1.out (by omega)
        have p4 := hV.cell P4.out (by omega)
        have p5 := hV.cell P5.out (by omega)
        unfold Oper.quietAt
        go_simp
        rfl)
       simp only [Act.put, List.setIfInBounds_toArray, List.set_cons_zero, List.set_cons_succ]
       go_big_quiet_on)
    | (go_big_quiet_want
       apply Exists.intro
       refine ⟨fun V hV => ?_, ?_⟩
       (unfold Oper.quietAt
        go_simp
        go_at_call 49
        refine (HOP.out V).mono ?_
        rintro e w4 ⟨rfl, rfl⟩
        exact ⟨rfl, hV⟩)
       simp only [Act.put, List.setIfInBounds_toArray, List.set_cons_zero, List.set_cons_succ]
       go_big_quiet_on)
    | (go_big_quiet_want
       apply Exists.intro
       refine ⟨fun V hV => ?_, ?_⟩
       (unfold Oper.quietAt
        go_simp
        go_at_call 47
        refine (HMT.out V).mono ?_
        rintro e w4 ⟨rfl, hb⟩
        exact ⟨rfl, hV.step hb⟩)
       simp only [Act.put, List.setIfInBounds_toArray, List.set_cons_zero, List.set_cons_succ]
       go_big_quiet_on)
    | (go_big_quiet_want
       apply Exists.intro
       refine ⟨fun V hV => ?_, ?_⟩
       (unfold Oper.quietAt
        go_simp
        go_at_call 50
        refine (HAC.out V).mono ?_
        rintro e w4 ⟨rfl, hb⟩
        exact ⟨rfl, hV.step hb⟩)
       simp only [Act.put, List.setIfInBounds_toArray, List.set_cons_zero, List.set_cons_succ]
       go_big_quiet_on)
    | (go_big_quiet_want
       apply Exists.intro
       refine ⟨fun V hV => ?_, ?_⟩
       (unfold Oper.quietAt
        go_simp
        go_at_call 38
        refine (HDG.out V).mono ?_
        rintro e w4 ⟨rfl, rfl⟩
        exact ⟨rfl, hV⟩)
       simp only [Act.put, List.setIfInBounds_toArray, List.set_cons_zero, List.set_cons_succ]
       go_big_quiet_on)
    | fail)
  refine wpQuiet_nil ?_
  intro w2 hw2
  have z2 : W.heap.size ≤ w2.heap.size := hw2.below.size
  have HB : Hid (Below w.heap.size w w2) := Lib.hid (HBW.out.trans (hw2.below.mono (by omega)))
  have B2 := Lib.hid (B0.out.below hw2.below (by omega))
  clear hw2 HX P0 P1 P4 P5 B0 HBW
  obtain ⟨⟨p0, p1, p2, p3, p4, p5, p6, p7⟩, -⟩ := B2.out.eight
  clear B2
  go_wp2_with fail
  refine (HHU.out _).mono ?_
  rintro e wx ⟨rfl, rfl⟩
  go_wp2_with fail
  refine (HHU.out _).mono ?_
  rintro e wx ⟨rfl, rfl⟩
  by_cases ez : hold = ⟨#[]⟩
  rotate_left
  · have ez' : (hold.toList == []) = false := by have := str_no ez; simpa using this
    go_wp2
    go_ret
    exact ⟨by first | (simp; done) | simp [ez], HB.out⟩
  subst ez
  go_wp2_with fail
  refine (HAU.out _).mono ?_
  rintro e wx ⟨rfl, rfl⟩
  go_wp2_with fail
  refine (HAU.out _).mono ?_
  rintro e wx ⟨rfl, rfl⟩
  by_cases ea : amount = 0
  rotate_left
  · go_wp2
    go_ret
    exact ⟨by first | (simp; done) | simp [ea], HB.out⟩
  subst ea
  by_cases et : ttl = 0
  rotate_left
  · go_wp2
    go_ret
    exact ⟨by first | (simp; done) | simp [et], HB.out⟩
  subst et
  by_cases eo : other = ⟨#[]⟩
  · subst eo
    go_wp2
    go_ret
    exact ⟨by first | rfl | simp, HB.out⟩
  have eo' : (other.toList == []) = false := by have := str_no eo; simpa using this
  go_wp2
  go_ret
  exact ⟨by first | (simp; done) | simp [eo], HB.out⟩

end Go.Proofs.YtiolebpoofkpmaaGreatDoor
set_option linter.unusedVariables false
namespace Go.Proofs.YtiolebpoofkpmaaGreatDoor
open Go.ChangeShapes Go.WideShapes Go.ChangeAt Go.RowKit

def trB (s : ByteArray) : Bool := digs s && decide (s.size = 6)
def headB (q : ReqD) : Bool := isOp q.op && (decide (q.mti = opTxt 0 q.op) && (acctIdB q.acct && trB q.trace))
def holdP (u : Bool) (s : ByteArray) : Bool := if u = true then idOk s else decide (s = ⟨#[]⟩)
def amtP (u : Bool) (n : Int) : Bool := if u = true then decide (0 ≤ n ∧ n ≤ 999999999999) else decide (n = 0)
def ttlP (u : Bool) (n : Int) : Bool := if u = true then decide (0 ≤ n ∧ n ≤ 9999) else decide (n = 0)
def othP (u : Bool) (s : ByteArray) : Bool := if u = true then acctIdB s else decide (s = ⟨#[]⟩)
def restB (q : ReqD) : Bool := holdP (holdU q.op) q.hold && (amtP (amtU q.op) q.amount && (ttlP (decide (q.op = 1)) q.ttl && othP (decide (q.op = 6)) q.other))
def reqOk (q : ReqD) : Bool := headB q && restB q
set_option maxRecDepth 100000 in
theorem headB_iff {q : ReqD} : headB q = true ↔ isOp q.op = true ∧ q.mti = opTxt 0 q.op ∧ acctIdB q.acct = true ∧ digs q.trace = true ∧ q.trace.size = 6 := by
  simp [headB, trB, Bool.and_eq_true, decide_eq_true_eq]
set_option maxRecDepth 100000 in
theorem specReqOk_any (q : ReqD) (w : World) (hq : qBig q) : Calls Tryz.prog 29 #[qV q] w fun e w' => e = .returned (.bool (reqOk q)) ∧ Below w.heap.size w w' := by
  obtain ⟨z1, z2, z3, z4, z5⟩ := hq
  cases hh : headB q
  · rw [show reqOk q = false by simp [reqOk, hh]]
    refine specReqOk_early q.op q.acct q.other q.hold q.trace q.mti _ q.amount q.ttl w z1 z2 z3 z4 rfl fun h => ?_
    rw [headB_iff.2 h] at hh
    cases hh
  · obtain ⟨h1, h2, h3, h4, h5⟩ := headB_iff.1 hh
    rw [show reqOk q = restB q by simp [reqOk, hh]]
    have h8 : 1 ≤ q.op ∧ q.op ≤ 8 := of_decide_eq_true h1
    have hc : q.op = 1 ∨ (q.op = 2 ∨ q.op = 3 ∨ q.op = 4) ∨ q.op = 5 ∨ q.op = 6 ∨ (q.op = 7 ∨ q.op = 8) := by omega
    obtain ⟨op, acct, other, hold, trace, mti, amount, ttl⟩ := q
    simp only at h1 h2 h3 h4 h5 hc z1 z2 z3 z4
    rcases hc with rfl | hc | rfl | rfl | hc
    · exact specReqOk_auth 1 acct other hold trace mti _ amount ttl w z1 z2 z3 z4 rfl rfl h2 h3 h4 h5
    · have k1 : isOp op = true := h1
      have e1 : holdU op = true := by rw [holdU, k1]; simp; omega
      have e2 : amtU op = true := by simp [amtU]; omega
      have e3 : decide (op = 1) = false := decide_eq_false (by omega)
      have e4 : decide (op = 6) = false := decide_eq_false (by omega)
      rw [show restB ⟨op, acct, other, hold, trace, mti, amount, ttl⟩ = (holdP (holdU op) hold && (amtP (amtU op) amount && (ttlP (decide (op = 1)) ttl && othP (decide (op = 6)) other))) from rfl, e1, e2, e3, e4]
      exact specReqOk_amt op acct other hold trace mti _ amount ttl w z1 z2 z3 z4 hc rfl h2 h3 h4 h5
    · exact specReqOk_free 5 acct other hold trace mti _ amount ttl w z1 z2 z3 z4 rfl rfl h2 h3 h4 h5
    · exact specReqOk_move 6 acct other hold trace mti _ amount ttl w z1 z2 z3 z4 rfl rfl h2 h3 h4 h5
    · have k1 : isOp op = true := h1
      have e1 : holdU op = false := by rw [holdU, k1]; simp; omega
      have e2 : amtU op = false := by simp [amtU]; omega
      have e3 : decide (op = 1) = false := decide_eq_false (by omega)
      have e4 : decide (op = 6) = false := decide_eq_false (by omega)
      rw [show restB ⟨op, acct, other, hold, trace, mti, amount, ttl⟩ = (holdP (holdU op) hold && (amtP (amtU op) amount && (ttlP (decide (op = 1)) ttl && othP (decide (op = 6)) other))) from rfl, e1, e2, e3, e4]
      exact specReqOk_plain op acct other hold trace mti _ amount ttl w z1 z2 z3 z4 hc rfl h2 h3 h4 h5
end Go.Proofs.YtiolebpoofkpmaaGreatDoor
set_option linter.unusedVariables false
namespace Go.Proofs.YtiolebpoofkpmaaGreatDoor
open Go.ChangeShapes Go.WideShapes Go.ChangeAt Go.RowKit

def fKind (no : Int) : Int :=
  if no = 3 ∨ no = 4 ∨ no = 7 ∨ no = 11 ∨ no = 14 ∨ no = 49 then 1 else if no = 37 ∨ no = 38 ∨ no = 39 ∨ no = 41 ∨ no = 95 then 2 else if no = 2 then 3 else if no = 102 ∨ no = 103 then 4 else if no = 48 ∨ no = 54 then 5 else 0
def fSize (no : Int) : Int :=
  if no = 2 then 19 else if no = 3 ∨ no = 11 ∨ no = 38 then 6 else if no = 4 ∨ no = 37 ∨ no = 95 then 12 else if no = 7 then 10 else if no = 14 then 4 else if no = 39 then 2 else if no = 41 then 8 else if no = 49 then 3 else if no = 102 ∨ no = 103 then 20 else if no = 48 ∨ no = 54 then 60 else 0

set_option maxRecDepth 100000 in
theorem specFieldKind_any (no : Int) (w : World) :
    Calls Tryz.prog 40 #[.int .i64 no] w fun e w' => e = .returned (.int .i64 (fKind no)) ∧ w = w' := by
  go_enter Tryz.func40, Tryz.ntmps40
  go_wp2
  all_goals go_ret
  all_goals refine ⟨ret_int ?_, rfl⟩
  all_goals simp only [beq_iff_eq, beq_eq_false_iff_ne, ne_eq] at *
  all_goals first | (subst_vars; rfl) | simp [fKind, *]

set_option maxRecDepth 100000 in
theorem specFieldSize_any (no : Int) (w : World) :
    Calls Tryz.prog 41 #[.int .i64 no] w fun e w' => e = .returned (.int .i64 (fSize no)) ∧ w = w' := by
  go_enter Tryz.func41, Tryz.ntmps41
  go_wp2
  all_goals go_ret
  all_goals refine ⟨ret_int ?_, rfl⟩
  all_goals simp only [beq_iff_eq, beq_eq_false_iff_ne, ne_eq] at *
  all_goals first | (subst_vars; rfl) | simp [fSize, *]
end Go.Proofs.YtiolebpoofkpmaaGreatDoor
set_option linter.unusedVariables false
namespace Go.Proofs.YtiolebpoofkpmaaGreatDoor
open Go.ChangeShapes Go.WideShapes Go.ChangeAt Go.RowKit

def fNos : List Int := [2, 3, 4, 7, 11, 14, 37, 38, 39, 41, 48, 49, 54, 95, 102, 103]
def putId (k : Int) : FuncId := if k = 1 then 110 else if k = 2 then 111 else if k = 3 then 113 else if k = 4 then 115 else 117
def getId (k : Int) : FuncId := if k = 1 then 52 else if k = 2 then 112 else if k = 3 then 114 else if k = 4 then 116 else 118
def rowCells (no : Int) : List Value := [.int .i64 no, .int .i64 (fSize no), .int .i64 (fKind no), .func (.func (putId (fKind no))) #[] #[], .func (.func (getId (fKind no))) #[] #[]]
def fTab : List Value := fNos.flatMap rowCells
/-- a row with its five cells -/
def rowV (no : Int) : Value := if fKind no = 0 then .agg #[.int .i64 0, .int .i64 0, .int .i64 0, .nilFunc, .nilFunc] else .agg (rowCells no).toArray

set_option maxRecDepth 100000 in
theorem last_block (w : World) (o : Obj) (n : Nat) (h : n = w.heap.size) : (w.alloc o).heap[n]? = some o := by subst h; exact heap_alloc_new _ _
def isTab (w : World) (e : Ending) (w' : World) : Prop := ∃ b, e = .returned (.slice (some ⟨b, 0, none⟩) 16 16) ∧ w.heap.size ≤ b ∧ b < w'.heap.size ∧ w'.heap[b]? = some (.cells fTab.toArray 107 (0, 0)) ∧ Below w.heap.size w w'
set_option maxRecDepth 100000 in
set_option maxHeartbeats 4000000 in
theorem fieldTable_any (w : World) :
    Calls Tryz.prog 96 #[] w (isTab w) := by
  go_enter Tryz.func96, Tryz.ntmps96
  go_wp2
  go_ret
  refine ⟨_, rfl, by omega, by simp, ?_, ((((((Below.refl _ _).alloc (Nat.le_refl _) _).alloc (by simp <;> omega) _).alloc (by simp <;> omega) _).alloc (by simp <;> omega) _).alloc (by simp <;> omega) _).alloc (by simp <;> omega) _⟩
  refine (last_block _ _ _ (by simp)).trans ?_
  kernel_rfl
set_option maxRecDepth 100000 in
theorem tab_cells (k : Nat) (hk : k < 16) (j : Nat) (hj : j < 5) : fTab[k * 5 + j]? = (rowCells (fNos.getD k 0))[j]? := by
  have hk' : k = 0 ∨ k = 1 ∨ k = 2 ∨ k = 3 ∨ k = 4 ∨ k = 5 ∨ k = 6 ∨ k = 7 ∨ k = 8 ∨ k = 9 ∨ k = 10 ∨ k = 11 ∨ k = 12 ∨ k = 13 ∨ k = 14 ∨ k = 15 := by omega
  have hj' : j = 0 ∨ j = 1 ∨ j = 2 ∨ j = 3 ∨ j = 4 := by omega
  rcases hk' with rfl | rfl | rfl | rfl | rfl | rfl | rfl | rfl | rfl | rfl | rfl | rfl | rfl | rfl | rfl | rfl <;> rcases hj' with rfl | rfl | rfl | rfl | rfl <;> rfl
end Go.Proofs.YtiolebpoofkpmaaGreatDoor
