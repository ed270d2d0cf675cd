/- ReqOk of the reference, by the operation's class; no conditions. -/
import Derived.Test.YtmojpiofdfmdgabDoorMrg1
import Derived.Laws.AppendOwn
import Derived.Laws.AppendOwnNone
import Derived.OwnWalk
import Derived.RegionTactic
import Derived.WalkLawsBesides
import Derived.Deep.Cut
import Derived.Lib.Bytealg
import Derived.Deep.MidRow
set_option linter.unusedVariables false
namespace Go.Proofs.YtmojpiofdfmdgabDoor
open Go.ChangeShapes Go.WideShapes Go.ChangeAt Go.RowKit

set_option maxRecDepth 100000 in
set_option maxHeartbeats 8000000 in
theorem specReqOk_auth (op : Int) (acct other hold trace mti om : ByteArray) (amount ttl : Int) (w : World) (hs1 : acct.size ≤ maxLen) (hs2 : other.size ≤ maxLen) (hs3 : hold.size ≤ maxLen) (hs4 : trace.size ≤ maxLen) (hop : op = 1) (hom : opTxt 0 op = om) (hm : mti = om) (h2 : acctIdB acct = true) (h3 : digs trace = true) (h4 : trace.size = 6) :
    Calls Tryd.prog 5 #[.agg #[.int .i64 op, .string acct, .string other, .string hold, .string trace, .string mti, .int .i64 amount, .int .i64 ttl]] w fun e w' => e = .returned (.bool (idOk hold && (decide (0 ≤ amount ∧ amount ≤ 999999999999) && (decide (0 ≤ ttl ∧ ttl ≤ 9999) && decide (other = ⟨#[]⟩))))) ∧ Below w.heap.size w w' := by
  have HOP := Lib.hid (l11Op_any op)
  have HMT := Lib.hid (hom ▸ specOpMti_any op)
  have HAC := Lib.hid (fun V => specAcctIdOk_any acct V hs1)
  have HDG := Lib.hid (fun V => specDigits_any trace V hs4)
  subst hop
  have HHU := Lib.hid (l11Hold_any 1)
  have HAU := Lib.hid (l11Amount_any 1)
  have HHI := Lib.hid (fun V => specHoldIdOk_any hold V hs3)
  have HLA := Lib.hid (fun V => specIn_any amount 0 999999999999 V)
  have HLT := Lib.hid (fun V => specIn_any ttl 0 9999 V)
  have HOI := Lib.hid (fun V => specAcctIdOk_any other V hs2)
  have k1 : isOp 1 = true := by decide
  have k2 : holdU 1 = true := by decide
  have k3 : amtU 1 = true := by decide
  rw [k1] at HOP
  rw [k2] at HHU
  rw [k3] at HAU
  rw [h2] at HAC
  rw [h3] at HDG
  have h6 : ((trace.size : Int) == 6) = true := by simp; omega
  clear k1 k2 k3 h2 h3 h4 hom hs1 hs2 hs3 hs4
  subst hm
  generalize idOk hold = bh at HHI ⊢
  generalize decide (0 ≤ amount ∧ amount ≤ 999999999999) = ba at HLA ⊢
  generalize decide (0 ≤ ttl ∧ ttl ≤ 9999) = bt at HLT ⊢
  go_enter Tryd.func5, Tryd.ntmps5
  go_upto_region 1 with fail
  obtain ⟨W, hW⟩ : ∃ W, W = w.alloc (.cells #[.int .i64 1, .string acct, .string other, .string hold, .string trace, .string mti, .int .i64 amount, .int .i64 ttl] 26) := ⟨_, rfl⟩
  have bb : bk W w.heap.size 26 [.int .i64 1, .string acct, .string other, .string hold, .string trace, .string mti, .int .i64 amount, .int .i64 ttl] := by rw [hW]; exact bk.new w _ _
  have HBW : Hid (Below w.heap.size w W) := Lib.hid (by rw [hW]; exact (Below.refl _ _).alloc (Nat.le_refl _) _)
  rw [← hW]
  clear hW
  have z0 := bb.lt
  have B0 := Lib.hid bb
  obtain ⟨⟨p0, p1, p2, p3, p4, p5, p6, p7⟩, -⟩ := bb.eight
  have P0 := Lib.hid p0
  have P1 := Lib.hid p1
  have P4 := Lib.hid p4
  have P5 := Lib.hid p5
  clear bb p0 p1 p2 p3 p4 p5 p6 p7
  have HX : Hid (Ext W W.drew) := Lib.hid (Ext.refl W).drew
  refine quiet_region (C := Ext W) (by kernel_rfl) (by kernel_rfl) HX.out ?_
  repeat (first
    | go_big_quiet_skip
    | (go_big_quiet_want; go_big_quiet_op; go_big_quiet_on)
    | (go_big_quiet_want; go_big_quiet_op; apply Exists.intro; refine ⟨fun _ _ => rfl, ?_⟩; go_big_quiet_on)
    | (go_big_quiet_want
       apply Exists.intro
       refine ⟨fun V hV => ?_, ?_⟩
       (have p0 := hV.cell P0.out (by omega)
        have p1 := hV.cell P1.out (by omega)
        have p4 := hV.cell P4.out (by omega)
        have p5 := hV.cell P5.out (by omega)
        unfold Oper.quietAt
        go_simp
        rfl)
       simp only [Act.put, List.setIfInBounds_toArray, List.set_cons_zero, List.set_cons_succ]
       go_big_quiet_on)
    | (go_big_quiet_want
       apply Exists.intro
       refine ⟨fun V hV => ?_, ?_⟩
       (unfold Oper.quietAt
        go_simp
        go_at_call 8
        refine (HOP.out V).mono ?_
        rintro e w4 ⟨rfl, rfl⟩
        exact ⟨rfl, hV⟩)
       simp only [Act.put, List.setIfInBounds_toArray, List.set_cons_zero, List.set_cons_succ]
       go_big_quiet_on)
    | (go_big_quiet_want
       apply Exists.intro
       refine ⟨fun V hV => ?_, ?_⟩
       (unfold Oper.quietAt
        go_simp
        go_at_call 9
        refine (HMT.out V).mono ?_
        rintro e w4 ⟨rfl, hb⟩
        exact ⟨rfl, hV.step hb⟩)
       simp only [Act.put, List.setIfInBounds_toArray, List.set_cons_zero, List.set_cons_succ]
       go_big_quiet_on)
    | (go_big_quiet_want
       apply Exists.intro
       refine ⟨fun V hV => ?_, ?_⟩
       (unfold Oper.quietAt
        go_simp
        go_at_call 10
        refine (HAC.out V).mono ?_
        rintro e w4 ⟨rfl, hb⟩
        exact ⟨rfl, hV.step hb⟩)
       simp only [Act.put, List.setIfInBounds_toArray, List.set_cons_zero, List.set_cons_succ]
       go_big_quiet_on)
    | (go_big_quiet_want
       apply Exists.intro
       refine ⟨fun V hV => ?_, ?_⟩
       (unfold Oper.quietAt
        go_simp
        go_at_call 11
        refine (HDG.out V).mono ?_
        rintro e w4 ⟨rfl, rfl⟩
        exact ⟨rfl, hV⟩)
       simp only [Act.put, List.setIfInBounds_toArray, List.set_cons_zero, List.set_cons_succ]
       go_big_quiet_on)
    | fail)
  refine wpQuiet_nil ?_
  intro w2 hw2
  have z2 : W.heap.size ≤ w2.heap.size := hw2.below.size
  have HB : Hid (Below w.heap.size w w2) := Lib.hid (HBW.out.trans (hw2.below.mono (by omega)))
  have B2 := Lib.hid (B0.out.below hw2.below (by omega))
  clear hw2 HX P0 P1 P4 P5 B0 HBW
  obtain ⟨⟨p0, p1, p2, p3, p4, p5, p6, p7⟩, -⟩ := B2.out.eight
  clear B2
  go_wp2_with fail
  refine (HHU.out _).mono ?_
  rintro e wx ⟨rfl, rfl⟩
  go_wp2_with fail
  refine (HHI.out _).mono ?_
  rintro e wx ⟨rfl, rfl⟩
  cases bh
  · go_wp2
    go_ret
    exact ⟨by simp, HB.out⟩
  go_wp2_with fail
  refine (HHU.out _).mono ?_
  rintro e wx ⟨rfl, rfl⟩
  go_wp2_with fail
  refine (HAU.out _).mono ?_
  rintro e wx ⟨rfl, rfl⟩
  go_wp2_with fail
  refine (HLA.out _).mono ?_
  rintro e wx ⟨rfl, rfl⟩
  cases ba
  · go_wp2
    go_ret
    exact ⟨by simp, HB.out⟩
  go_wp2_with fail
  refine (HAU.out _).mono ?_
  rintro e wx ⟨rfl, rfl⟩
  go_wp2_with fail
  refine (HLT.out _).mono ?_
  rintro e wx ⟨rfl, rfl⟩
  cases bt
  · go_wp2
    go_ret
    exact ⟨by simp, HB.out⟩
  by_cases eo : other = ⟨#[]⟩
  · subst eo
    go_wp2
    go_ret
    exact ⟨by first | rfl | simp, HB.out⟩
  have eo' : (other.toList == []) = false := by have := str_no eo; simpa using this
  go_wp2
  go_ret
  exact ⟨by first | (simp; done) | simp [eo], HB.out⟩

set_option maxRecDepth 100000 in
set_option maxHeartbeats 8000000 in
theorem specReqOk_amt (op : Int) (acct other hold trace mti om : ByteArray) (amount ttl : Int) (w : World) (hs1 : acct.size ≤ maxLen) (hs2 : other.size ≤ maxLen) (hs3 : hold.size ≤ maxLen) (hs4 : trace.size ≤ maxLen) (hop : op = 2 ∨ op = 3 ∨ op = 4) (hom : opTxt 0 op = om) (hm : mti = om) (h2 : acctIdB acct = true) (h3 : digs trace = true) (h4 : trace.size = 6) :
    Calls Tryd.prog 5 #[.agg #[.int .i64 op, .string acct, .string other, .string hold, .string trace, .string mti, .int .i64 amount, .int .i64 ttl]] w fun e w' => e = .returned (.bool (idOk hold && (decide (0 ≤ amount ∧ amount ≤ 999999999999) && (decide (ttl = 0) && decide (other = ⟨#[]⟩))))) ∧ Below w.heap.size w w' := by
  have HOP := Lib.hid (l11Op_any op)
  have HMT := Lib.hid (hom ▸ specOpMti_any op)
  have HAC := Lib.hid (fun V => specAcctIdOk_any acct V hs1)
  have HDG := Lib.hid (fun V => specDigits_any trace V hs4)
  have HHU := Lib.hid (l11Hold_any op)
  have HAU := Lib.hid (l11Amount_any op)
  have HHI := Lib.hid (fun V => specHoldIdOk_any hold V hs3)
  have HLA := Lib.hid (fun V => specIn_any amount 0 999999999999 V)
  have HLT := Lib.hid (fun V => specIn_any ttl 0 9999 V)
  have HOI := Lib.hid (fun V => specAcctIdOk_any other V hs2)
  have k1 : isOp op = true := decide_eq_true (by omega)
  have k2 : holdU op = true := by rw [holdU, k1]; simp; omega
  have k3 : amtU op = true := by simp [amtU]; omega
  rw [k1] at HOP
  rw [k2] at HHU
  rw [k3] at HAU
  rw [h2] at HAC
  rw [h3] at HDG
  have n1 : (op == 1) = false := by simp; omega
  have n6 : (op == 6) = false := by simp; omega
  have m1 : (op != 1) = true := by simp; omega
  have m6 : (op != 6) = true := by simp; omega
  have h6 : ((trace.size : Int) == 6) = true := by simp; omega
  clear k1 k2 k3 h2 h3 h4 hom hop hs1 hs2 hs3 hs4
  subst hm
  generalize idOk hold = bh at HHI ⊢
  generalize decide (0 ≤ amount ∧ amount ≤ 999999999999) = ba at HLA ⊢
  go_enter Tryd.func5, Tryd.ntmps5
  go_upto_region 1 with fail
  obtain ⟨W, hW⟩ : ∃ W, W = w.alloc (.cells #[.int .i64 op, .string acct, .string other, .string hold, .string trace, .string mti, .int .i64 amount, .int .i64 ttl] 26) := ⟨_, rfl⟩
  have bb : bk W w.heap.size 26 [.int .i64 op, .string acct, .string other, .string hold, .string trace, .string mti, .int .i64 amount, .int .i64 ttl] := by rw [hW]; exact bk.new w _ _
  have HBW : Hid (Below w.heap.size w W) := Lib.hid (by rw [hW]; exact (Below.refl _ _).alloc (Nat.le_refl _) _)
  rw [← hW]
  clear hW
  have z0 := bb.lt
  have B0 := Lib.hid bb
  obtain ⟨⟨p0, p1, p2, p3, p4, p5, p6, p7⟩, -⟩ := bb.eight
  have P0 := Lib.hid p0
  have P1 := Lib.hid p1
  have P4 := Lib.hid p4
  have P5 := Lib.hid p5
  clear bb p0 p1 p2 p3 p4 p5 p6 p7
  have HX : Hid (Ext W W.drew) := Lib.hid (Ext.refl W).drew
  refine quiet_region (C := Ext W) (by kernel_rfl) (by kernel_rfl) HX.out ?_
  repeat (first
    | go_big_quiet_skip
    | (go_big_quiet_want; go_big_quiet_op; go_big_quiet_on)
    | (go_big_quiet_want; go_big_quiet_op; apply Exists.intro; refine ⟨fun _ _ => rfl, ?_⟩; go_big_quiet_on)
    | (go_big_quiet_want
       apply Exists.intro
       refine ⟨fun V hV => ?_, ?_⟩
       (have p0 := hV.cell P0.out (by omega)
        have p1 := hV.cell P1.out (by omega)
        have p4 := hV.cell P4.out (by omega)
        have p5 := hV.cell P5.out (by omega)
        unfold Oper.quietAt
        go_simp
        rfl)
       simp only [Act.put, List.setIfInBounds_toArray, List.set_cons_zero, List.set_cons_succ]
       go_big_quiet_on)
    | (go_big_quiet_want
       apply Exists.intro
       refine ⟨fun V hV => ?_, ?_⟩
       (unfold Oper.quietAt
        go_simp
        go_at_call 8
        refine (HOP.out V).mono ?_
        rintro e w4 ⟨rfl, rfl⟩
        exact ⟨rfl, hV⟩)
       simp only [Act.put, List.setIfInBounds_toArray, List.set_cons_zero, List.set_cons_succ]
       go_big_quiet_on)
    | (go_big_quiet_want
       apply Exists.intro
       refine ⟨fun V hV => ?_, ?_⟩
       (unfold Oper.quietAt
        go_simp
        go_at_call 9
        refine (HMT.out V).mono ?_
        rintro e w4 ⟨rfl, hb⟩
        exact ⟨rfl, hV.step hb⟩)
       simp only [Act.put, List.setIfInBounds_toArray, List.set_cons_zero, List.set_cons_succ]
       go_big_quiet_on)
    | (go_big_quiet_want
       apply Exists.intro
       refine ⟨fun V hV => ?_, ?_⟩
       (unfold Oper.quietAt
        go_simp
        go_at_call 10
        refine (HAC.out V).mono ?_
        rintro e w4 ⟨rfl, hb⟩
        exact ⟨rfl, hV.step hb⟩)
       simp only [Act.put, List.setIfInBounds_toArray, List.set_cons_zero, List.set_cons_succ]
       go_big_quiet_on)
    | (go_big_quiet_want
       apply Exists.intro
       refine ⟨fun V hV => ?_, ?_⟩
       (unfold Oper.quietAt
        go_simp
        go_at_call 11
        refine (HDG.out V).mono ?_
        rintro e w4 ⟨rfl, rfl⟩
        exact ⟨rfl, hV⟩)
       simp only [Act.put, List.setIfInBounds_toArray, List.set_cons_zero, List.set_cons_succ]
       go_big_quiet_on)
    | fail)
  refine wpQuiet_nil ?_
  intro w2 hw2
  have z2 : W.heap.size ≤ w2.heap.size := hw2.below.size
  have HB : Hid (Below w.heap.size w w2) := Lib.hid (HBW.out.trans (hw2.below.mono (by omega)))
  have B2 := Lib.hid (B0.out.below hw2.below (by omega))
  clear hw2 HX P0 P1 P4 P5 B0 HBW
  obtain ⟨⟨p0, p1, p2, p3, p4, p5, p6, p7⟩, -⟩ := B2.out.eight
  clear B2
  go_wp2_with fail
  refine (HHU.out _).mono ?_
  rintro e wx ⟨rfl, rfl⟩
  go_wp2_with fail
  refine (HHI.out _).mono ?_
  rintro e wx ⟨rfl, rfl⟩
  cases bh
  · go_wp2
    go_ret
    exact ⟨by simp, HB.out⟩
  go_wp2_with fail
  refine (HHU.out _).mono ?_
  rintro e wx ⟨rfl, rfl⟩
  go_wp2_with fail
  refine (HAU.out _).mono ?_
  rintro e wx ⟨rfl, rfl⟩
  go_wp2_with fail
  refine (HLA.out _).mono ?_
  rintro e wx ⟨rfl, rfl⟩
  cases ba
  · go_wp2
    go_ret
    exact ⟨by simp, HB.out⟩
  go_wp2_with fail
  refine (HAU.out _).mono ?_
  rintro e wx ⟨rfl, rfl⟩
  by_cases et : ttl = 0
  rotate_left
  · go_wp2
    go_ret
    exact ⟨by first | (simp; done) | simp [et], HB.out⟩
  subst et
  by_cases eo : other = ⟨#[]⟩
  · subst eo
    go_wp2
    go_ret
    exact ⟨by first | rfl | simp, HB.out⟩
  have eo' : (other.toList == []) = false := by have := str_no eo; simpa using this
  go_wp2
  go_ret
  exact ⟨by first | (simp; done) | simp [eo], HB.out⟩

set_option maxRecDepth 100000 in
set_option maxHeartbeats 8000000 in
theorem specReqOk_free (op : Int) (acct other hold trace mti om : ByteArray) (amount ttl : Int) (w : World) (hs1 : acct.size ≤ maxLen) (hs2 : other.size ≤ maxLen) (hs3 : hold.size ≤ maxLen) (hs4 : trace.size ≤ maxLen) (hop : op = 5) (hom : opTxt 0 op = om) (hm : mti = om) (h2 : acctIdB acct = true) (h3 : digs trace = true) (h4 : trace.size = 6) :
    Calls Tryd.prog 5 #[.agg #[.int .i64 op, .string acct, .string other, .string hold, .string trace, .string mti, .int .i64 amount, .int .i64 ttl]] w fun e w' => e = .returned (.bool (idOk hold && (decide (amount = 0) && (decide (ttl = 0) && decide (other = ⟨#[]⟩))))) ∧ Below w.heap.size w w' := by
  have HOP := Lib.hid (l11Op_any op)
  have HMT := Lib.hid (hom ▸ specOpMti_any op)
  have HAC := Lib.hid (fun V => specAcctIdOk_any acct V hs1)
  have HDG := Lib.hid (fun V => specDigits_any trace V hs4)
  subst hop
  have HHU := Lib.hid (l11Hold_any 5)
  have HAU := Lib.hid (l11Amount_any 5)
  have HHI := Lib.hid (fun V => specHoldIdOk_any hold V hs3)
  have HLA := Lib.hid (fun V => specIn_any amount 0 999999999999 V)
  have HLT := Lib.hid (fun V => specIn_any ttl 0 9999 V)
  have HOI := Lib.hid (fun V => specAcctIdOk_any other V hs2)
  have k1 : isOp 5 = true := by decide
  have k2 : holdU 5 = true := by decide
  have k3 : amtU 5 = false := by decide
  rw [k1] at HOP
  rw [k2] at HHU
  rw [k3] at HAU
  rw [h2] at HAC
  rw [h3] at HDG
  have h6 : ((trace.size : Int) == 6) = true := by simp; omega
  clear k1 k2 k3 h2 h3 h4 hom hs1 hs2 hs3 hs4
  subst hm
  generalize idOk hold = bh at HHI ⊢
  go_enter Tryd.func5, Tryd.ntmps5
  go_upto_region 1 with fail
  obtain ⟨W, hW⟩ : ∃ W, W = w.alloc (.cells #[.int .i64 5, .string acct, .string other, .string hold, .string trace, .string mti, .int .i64 amount, .int .i64 ttl] 26) := ⟨_, rfl⟩
  have bb : bk W w.heap.size 26 [.int .i64 5, .string acct, .string other, .string hold, .string trace, .string mti, .int .i64 amount, .int .i64 ttl] := by rw [hW]; exact bk.new w _ _
  have HBW : Hid (Below w.heap.size w W) := Lib.hid (by rw [hW]; exact (Below.refl _ _).alloc (Nat.le_refl _) _)
  rw [← hW]
  clear hW
  have z0 := bb.lt
  have B0 := Lib.hid bb
  obtain ⟨⟨p0, p1, p2, p3, p4, p5, p6, p7⟩, -⟩ := bb.eight
  have P0 := Lib.hid p0
  have P1 := Lib.hid p1
  have P4 := Lib.hid p4
  have P5 := Lib.hid p5
  clear bb p0 p1 p2 p3 p4 p5 p6 p7
  have HX : Hid (Ext W W.drew) := Lib.hid (Ext.refl W).drew
  refine quiet_region (C := Ext W) (by kernel_rfl) (by kernel_rfl) HX.out ?_
  repeat (first
    | go_big_quiet_skip
    | (go_big_quiet_want; go_big_quiet_op; go_big_quiet_on)
    | (go_big_quiet_want; go_big_quiet_op; apply Exists.intro; refine ⟨fun _ _ => rfl, ?_⟩; go_big_quiet_on)
    | (go_big_quiet_want
       apply Exists.intro
       refine ⟨fun V hV => ?_, ?_⟩
       (have p0 := hV.cell P0.out (by omega)
        have p1 := hV.cell P1.out (by omega)
        have p4 := hV.cell P4.out (by omega)
        have p5 := hV.cell P5.out (by omega)
        unfold Oper.quietAt
        go_simp
        rfl)
       simp only [Act.put, List.setIfInBounds_toArray, List.set_cons_zero, List.set_cons_succ]
       go_big_quiet_on)
    | (go_big_quiet_want
       apply Exists.intro
       refine ⟨fun V hV => ?_, ?_⟩
       (unfold Oper.quietAt
        go_simp
        go_at_call 8
        refine (HOP.out V).mono ?_
        rintro e w4 ⟨rfl, rfl⟩
        exact ⟨rfl, hV⟩)
       simp only [Act.put, List.setIfInBounds_toArray, List.set_cons_zero, List.set_cons_succ]
       go_big_quiet_on)
    | (go_big_quiet_want
       apply Exists.intro
       refine ⟨fun V hV => ?_, ?_⟩
       (unfold Oper.quietAt
        go_simp
        go_at_call 9
        refine (HMT.out V).mono ?_
        rintro e w4 ⟨rfl, hb⟩
        exact ⟨rfl, hV.step hb⟩)
       simp only [Act.put, List.setIfInBounds_toArray, List.set_cons_zero, List.set_cons_succ]
       go_big_quiet_on)
    | (go_big_quiet_want
       apply Exists.intro
       refine ⟨fun V hV => ?_, ?_⟩
       (unfold Oper.quietAt
        go_simp
        go_at_call 10
        refine (HAC.out V).mono ?_
        rintro e w4 ⟨rfl, hb⟩
        exact ⟨rfl, hV.step hb⟩)
       simp only [Act.put, List.setIfInBounds_toArray, List.set_cons_zero, List.set_cons_succ]
       go_big_quiet_on)
    | (go_big_quiet_want
       apply Exists.intro
       refine ⟨fun V hV => ?_, ?_⟩
       (unfold Oper.quietAt
        go_simp
        go_at_call 11
        refine (HDG.out V).mono ?_
        rintro e w4 ⟨rfl, rfl⟩
        exact ⟨rfl, hV⟩)
       simp only [Act.put, List.setIfInBounds_toArray, List.set_cons_zero, List.set_cons_succ]
       go_big_quiet_on)
    | fail)
  refine wpQuiet_nil ?_
  intro w2 hw2
  have z2 : W.heap.size ≤ w2.heap.size := hw2.below.size
  have HB : Hid (Below w.heap.size w w2) := Lib.hid (HBW.out.trans (hw2.below.mono (by omega)))
  have B2 := Lib.hid (B0.out.below hw2.below (by omega))
  clear hw2 HX P0 P1 P4 P5 B0 HBW
  obtain ⟨⟨p0, p1, p2, p3, p4, p5, p6, p7⟩, -⟩ := B2.out.eight
  clear B2
  go_wp2_with fail
  refine (HHU.out _).mono ?_
  rintro e wx ⟨rfl, rfl⟩
  go_wp2_with fail
  refine (HHI.out _).mono ?_
  rintro e wx ⟨rfl, rfl⟩
  cases bh
  · go_wp2
    go_ret
    exact ⟨by simp, HB.out⟩
  go_wp2_with fail
  refine (HHU.out _).mono ?_
  rintro e wx ⟨rfl, rfl⟩
  go_wp2_with fail
  refine (HAU.out _).mono ?_
  rintro e wx ⟨rfl, rfl⟩
  go_wp2_with fail
  refine (HAU.out _).mono ?_
  rintro e wx ⟨rfl, rfl⟩
  by_cases ea : amount = 0
  rotate_left
  · go_wp2
    go_ret
    exact ⟨by first | (simp; done) | simp [ea], HB.out⟩
  subst ea
  by_cases et : ttl = 0
  rotate_left
  · go_wp2
    go_ret
    exact ⟨by first | (simp; done) | simp [et], HB.out⟩
  subst et
  by_cases eo : other = ⟨#[]⟩
  · subst eo
    go_wp2
    go_ret
    exact ⟨by first | rfl | simp, HB.out⟩
  have eo' : (other.toList == []) = false := by have := str_no eo; simpa using this
  go_wp2
  go_ret
  exact ⟨by first | (simp; done) | simp [eo], HB.out⟩

set_option maxRecDepth 100000 in
set_option maxHeartbeats 8000000 in
theorem specReqOk_move (op : Int) (acct other hold trace mti om : ByteArray) (amount ttl : Int) (w : World) (hs1 : acct.size ≤ maxLen) (hs2 : other.size ≤ maxLen) (hs3 : hold.size ≤ maxLen) (hs4 : trace.size ≤ maxLen) (hop : op = 6) (hom : opTxt 0 op = om) (hm : mti = om) (h2 : acctIdB acct = true) (h3 : digs trace = true) (h4 : trace.size = 6) :
    Calls Tryd.prog 5 #[.agg #[.int .i64 op, .string acct, .string other, .string hold, .string trace, .string mti, .int .i64 amount, .int .i64 ttl]] w fun e w' => e = .returned (.bool (idOk hold && (decide (amount = 0) && (decide (ttl = 0) && acctIdB other)))) ∧ Below w.heap.size w w' := by
  have HOP := Lib.hid (l11Op_any op)
  have HMT := Lib.hid (hom ▸ specOpMti_any op)
  have HAC := Lib.hid (fun V => specAcctIdOk_any acct V hs1)
  have HDG := Lib.hid (fun V => specDigits_any trace V hs4)
  subst hop
  have HHU := Lib.hid (l11Hold_any 6)
  have HAU := Lib.hid (l11Amount_any 6)
  have HHI := Lib.hid (fun V => specHoldIdOk_any hold V hs3)
  have HLA := Lib.hid (fun V => specIn_any amount 0 999999999999 V)
  have HLT := Lib.hid (fun V => specIn_any ttl 0 9999 V)
  have HOI := Lib.hid (fun V => specAcctIdOk_any other V hs2)
  have k1 : isOp 6 = true := by decide
  have k2 : holdU 6 = true := by decide
  have k3 : amtU 6 = false := by decide
  rw [k1] at HOP
  rw [k2] at HHU
  rw [k3] at HAU
  rw [h2] at HAC
  rw [h3] at HDG
  have h6 : ((trace.size : Int) == 6) = true := by simp; omega
  clear k1 k2 k3 h2 h3 h4 hom hs1 hs2 hs3 hs4
  subst hm
  generalize idOk hold = bh at HHI ⊢
  generalize acctIdB other = bo at HOI ⊢
  go_enter Tryd.func5, Tryd.ntmps5
  go_upto_region 1 with fail
  obtain ⟨W, hW⟩ : ∃ W, W = w.alloc (.cells #[.int .i64 6, .string acct, .string other, .string hold, .string trace, .string mti, .int .i64 amount, .int .i64 ttl] 26) := ⟨_, rfl⟩
  have bb : bk W w.heap.size 26 [.int .i64 6, .string acct, .string other, .string hold, .string trace, .string mti, .int .i64 amount, .int .i64 ttl] := by rw [hW]; exact bk.new w _ _
  have HBW : Hid (Below w.heap.size w W) := Lib.hid (by rw [hW]; exact (Below.refl _ _).alloc (Nat.le_refl _) _)
  rw [← hW]
  clear hW
  have z0 := bb.lt
  have B0 := Lib.hid bb
  obtain ⟨⟨p0, p1, p2, p3, p4, p5, p6, p7⟩, -⟩ := bb.eight
  have P0 := Lib.hid p0
  have P1 := Lib.hid p1
  have P4 := Lib.hid p4
  have P5 := Lib.hid p5
  clear bb p0 p1 p2 p3 p4 p5 p6 p7
  have HX : Hid (Ext W W.drew) := Lib.hid (Ext.refl W).drew
  refine quiet_region (C := Ext W) (by kernel_rfl) (by kernel_rfl) HX.out ?_
  repeat (first
    | go_big_quiet_skip
    | (go_big_quiet_want; go_big_quiet_op; go_big_quiet_on)
    | (go_big_quiet_want; go_big_quiet_op; apply Exists.intro; refine ⟨fun _ _ => rfl, ?_⟩; go_big_quiet_on)
    | (go_big_quiet_want
       apply Exists.intro
       refine ⟨fun V hV => ?_, ?_⟩
       (have p0 := hV.cell P0.out (by omega)
        have p1 := hV.cell P1.out (by omega)
        have p4 := hV.cell P4.out (by omega)
        have p5 := hV.cell P5.out (by omega)
        unfold Oper.quietAt
        go_simp
        rfl)
       simp only [Act.put, List.setIfInBounds_toArray, List.set_cons_zero, List.set_cons_succ]
       go_big_quiet_on)
    | (go_big_quiet_want
       apply Exists.intro
       refine ⟨fun V hV => ?_, ?_⟩
       (unfold Oper.quietAt
        go_simp
        go_at_call 8
        refine (HOP.out V).mono ?_
        rintro e w4 ⟨rfl, rfl⟩
        exact ⟨rfl, hV⟩)
       simp only [Act.put, List.setIfInBounds_toArray, List.set_cons_zero, List.set_cons_succ]
       go_big_quiet_on)
    | (go_big_quiet_want
       apply Exists.intro
       refine ⟨fun V hV => ?_, ?_⟩
       (unfold Oper.quietAt
        go_simp
        go_at_call 9
        refine (HMT.out V).mono ?_
        rintro e w4 ⟨rfl, hb⟩
        exact ⟨rfl, hV.step hb⟩)
       simp only [Act.put, List.setIfInBounds_toArray, List.set_cons_zero, List.set_cons_succ]
       go_big_quiet_on)
    | (go_big_quiet_want
       apply Exists.intro
       refine ⟨fun V hV => ?_, ?_⟩
       (unfold Oper.quietAt
        go_simp
        go_at_call 10
        refine (HAC.out V).mono ?_
        rintro e w4 ⟨rfl, hb⟩
        exact ⟨rfl, hV.step hb⟩)
       simp only [Act.put, List.setIfInBounds_toArray, List.set_cons_zero, List.set_cons_succ]
       go_big_quiet_on)
    | (go_big_quiet_want
       apply Exists.intro
       refine ⟨fun V hV => ?_, ?_⟩
       (unfold Oper.quietAt
        go_simp
        go_at_call 11
        refine (HDG.out V).mono ?_
        rintro e w4 ⟨rfl, rfl⟩
        exact ⟨rfl, hV⟩)
       simp only [Act.put, List.setIfInBounds_toArray, List.set_cons_zero, List.set_cons_succ]
       go_big_quiet_on)
    | fail)
  refine wpQuiet_nil ?_
  intro w2 hw2
  have z2 : W.heap.size ≤ w2.heap.size := hw2.below.size
  have HB : Hid (Below w.heap.size w w2) := Lib.hid (HBW.out.trans (hw2.below.mono (by omega)))
  have B2 := Lib.hid (B0.out.below hw2.below (by omega))
  clear hw2 HX P0 P1 P4 P5 B0 HBW
  obtain ⟨⟨p0, p1, p2, p3, p4, p5, p6, p7⟩, -⟩ := B2.out.eight
  go_wp2_with fail
  refine (HHU.out _).mono ?_
  rintro e wx ⟨rfl, rfl⟩
  go_wp2_with fail
  refine (HHI.out _).mono ?_
  rintro e wx ⟨rfl, rfl⟩
  cases bh
  · go_wp2
    go_ret
    exact ⟨by simp, HB.out⟩
  go_wp2_with fail
  refine (HHU.out _).mono ?_
  rintro e wx ⟨rfl, rfl⟩
  go_wp2_with fail
  refine (HAU.out _).mono ?_
  rintro e wx ⟨rfl, rfl⟩
  go_wp2_with fail
  refine (HAU.out _).mono ?_
  rintro e wx ⟨rfl, rfl⟩
  by_cases ea : amount = 0
  rotate_left
  · go_wp2
    go_ret
    exact ⟨by first | (simp; done) | simp [ea], HB.out⟩
  subst ea
  by_cases et : ttl = 0
  rotate_left
  · go_wp2
    go_ret
    exact ⟨by first | (simp; done) | simp [et], HB.out⟩
  subst et
  go_wp2_with fail
  refine (HOI.out _).mono ?_
  rintro e wx ⟨rfl, hb⟩
  have HBZ : Hid (Below w.heap.size w wx) := Lib.hid (HB.out.trans (hb.mono (by omega)))
  have BX := B2.out.below hb (by omega)
  clear p0 p1 p2 p3 p4 p5 p6 p7 B2
  obtain ⟨⟨p0, p1, p2, p3, p4, p5, p6, p7⟩, -⟩ := BX.eight
  clear BX hb
  cases bo
  all_goals go_wp2
  all_goals go_ret
  all_goals exact ⟨by first | rfl | simp, HBZ.out⟩

set_option maxRecDepth 100000 in
set_option maxHeartbeats 8000000 in
theorem specReqOk_plain (op : Int) (acct other hold trace mti om : ByteArray) (amount ttl : Int) (w : World) (hs1 : acct.size ≤ maxLen) (hs2 : other.size ≤ maxLen) (hs3 : hold.size ≤ maxLen) (hs4 : trace.size ≤ maxLen) (hop : op = 7 ∨ op = 8) (hom : opTxt 0 op = om) (hm : mti = om) (h2 : acctIdB acct = true) (h3 : digs trace = true) (h4 : trace.size = 6) :
    Calls Tryd.prog 5 #[.agg #[.int .i64 op, .string acct, .string other, .string hold, .string trace, .string mti, .int .i64 amount, .int .i64 ttl]] w fun e w' => e = .returned (.bool (decide (hold = ⟨#[]⟩) && (decide (amount = 0) && (decide (ttl = 0) && decide (other = ⟨#[]⟩))))) ∧ Below w.heap.size w w' := by
  have HOP := Lib.hid (l11Op_any op)
  have HMT := Lib.hid (hom ▸ specOpMti_any op)
  have HAC := Lib.hid (fun V => specAcctIdOk_any acct V hs1)
  have HDG := Lib.hid (fun V => specDigits_any trace V hs4)
  have HHU := Lib.hid (l11Hold_any op)
  have HAU := Lib.hid (l11Amount_any op)
  have HHI := Lib.hid (fun V => specHoldIdOk_any hold V hs3)
  have HLA := Lib.hid (fun V => specIn_any amount 0 999999999999 V)
  have HLT := Lib.hid (fun V => specIn_any ttl 0 9999 V)
  have HOI := Lib.hid (fun V => specAcctIdOk_any other V hs2)
  have k1 : isOp op = true := decide_eq_true (by omega)
  have k2 : holdU op = false := by rw [holdU, k1]; simp; omega
  have k3 : amtU op = false := by simp [amtU]; omega
  rw [k1] at HOP
  rw [k2] at HHU
  rw [k3] at HAU
  rw [h2] at HAC
  rw [h3] at HDG
  have n1 : (op == 1) = false := by simp; omega
  have n6 : (op == 6) = false := by simp; omega
  have m1 : (op != 1) = true := by simp; omega
  have m6 : (op != 6) = true := by simp; omega
  have h6 : ((trace.size : Int) == 6) = true := by simp; omega
  clear k1 k2 k3 h2 h3 h4 hom hop hs1 hs2 hs3 hs4
  subst hm
  go_enter Tryd.func5, Tryd.ntmps5
  go_upto_region 1 with fail
  obtain ⟨W, hW⟩ : ∃ W, W = w.alloc (.cells #[.int .i64 op, .string acct, .string other, .string hold, .string trace, .string mti, .int .i64 amount, .int .i64 ttl] 26) := ⟨_, rfl⟩
  have bb : bk W w.heap.size 26 [.int .i64 op, .string acct, .string other, .string hold, .string trace, .string mti, .int .i64 amount, .int .i64 ttl] := by rw [hW]; exact bk.new w _ _
  have HBW : Hid (Below w.heap.size w W) := Lib.hid (by rw [hW]; exact (Below.refl _ _).alloc (Nat.le_refl _) _)
  rw [← hW]
  clear hW
  have z0 := bb.lt
  have B0 := Lib.hid bb
  obtain ⟨⟨p0, p1, p2, p3, p4, p5, p6, p7⟩, -⟩ := bb.eight
  have P0 := Lib.hid p0
  have P1 := Lib.hid p1
  have P4 := Lib.hid p4
  have P5 := Lib.hid p5
  clear bb p0 p1 p2 p3 p4 p5 p6 p7
  have HX : Hid (Ext W W.drew) := Lib.hid (Ext.refl W).drew
  refine quiet_region (C := Ext W) (by kernel_rfl) (by kernel_rfl) HX.out ?_
  repeat (first
    | go_big_quiet_skip
    | (go_big_quiet_want; go_big_quiet_op; go_big_quiet_on)
    | (go_big_quiet_want; go_big_quiet_op; apply Exists.intro; refine ⟨fun _ _ => rfl, ?_⟩; go_big_quiet_on)
    | (go_big_quiet_want
       apply Exists.intro
       refine ⟨fun V hV => ?_, ?_⟩
       (have p0 := hV.cell P0.out (by omega)
        have p1 := hV.cell P1.out (by omega)
        have p4 := hV.cell P4.out (by omega)
        have p5 := hV.cell P5.out (by omega)
        unfold Oper.quietAt
        go_simp
        rfl)
       simp only [Act.put, List.setIfInBounds_toArray, List.set_cons_zero, List.set_cons_succ]
       go_big_quiet_on)
    | (go_big_quiet_want
       apply Exists.intro
       refine ⟨fun V hV => ?_, ?_⟩
       (unfold Oper.quietAt
        go_simp
        go_at_call 8
        refine (HOP.out V).mono ?_
        rintro e w4 ⟨rfl, rfl⟩
        exact ⟨rfl, hV⟩)
       simp only [Act.put, List.setIfInBounds_toArray, List.set_cons_zero, List.set_cons_succ]
       go_big_quiet_on)
    | (go_big_quiet_want
       apply Exists.intro
       refine ⟨fun V hV => ?_, ?_⟩
       (unfold Oper.quietAt
        go_simp
        go_at_call 9
        refine (HMT.out V).mono ?_
        rintro e w4 ⟨rfl, hb⟩
        exact ⟨rfl, hV.step hb⟩)
       simp only [Act.put, List.setIfInBounds_toArray, List.set_cons_zero, List.set_cons_succ]
       go_big_quiet_on)
    | (go_big_quiet_want
       apply Exists.intro
       refine ⟨fun V hV => ?_, ?_⟩
       (unfold Oper.quietAt
        go_simp
        go_at_call 10
        refine (HAC.out V).mono ?_
        rintro e w4 ⟨rfl, hb⟩
        exact ⟨rfl, hV.step hb⟩)
       simp only [Act.put, List.setIfInBounds_toArray, List.set_cons_zero, List.set_cons_succ]
       go_big_quiet_on)
    | (go_big_quiet_want
       apply Exists.intro
       refine ⟨fun V hV => ?_, ?_⟩
       (unfold Oper.quietAt
        go_simp
        go_at_call 11
        refine (HDG.out V).mono ?_
        rintro e w4 ⟨rfl, rfl⟩
        exact ⟨rfl, hV⟩)
       simp only [Act.put, List.setIfInBounds_toArray, List.set_cons_zero, List.set_cons_succ]
       go_big_quiet_on)
    | fail)
  refine wpQuiet_nil ?_
  intro w2 hw2
  have z2 : W.heap.size ≤ w2.heap.size := hw2.below.size
  have HB : Hid (Below w.heap.size w w2) := Lib.hid (HBW.out.trans (hw2.below.mono (by omega)))
  have B2 := Lib.hid (B0.out.below hw2.below (by omega))
  clear hw2 HX P0 P1 P4 P5 B0 HBW
  obtain ⟨⟨p0, p1, p2, p3, p4, p5, p6, p7⟩, -⟩ := B2.out.eight
  clear B2
  go_wp2_with fail
  refine (HHU.out _).mono ?_
  rintro e wx ⟨rfl, rfl⟩
  go_wp2_with fail
  refine (HHU.out _).mono ?_
  rintro e wx ⟨rfl, rfl⟩
  by_cases ez : hold = ⟨#[]⟩
  rotate_left
  · have ez' : (hold.toList == []) = false := by have := str_no ez; simpa using this
    go_wp2
    go_ret
    exact ⟨by first | (simp; done) | simp [ez], HB.out⟩
  subst ez
  go_wp2_with fail
  refine (HAU.out _).mono ?_
  rintro e wx ⟨rfl, rfl⟩
  go_wp2_with fail
  refine (HAU.out _).mono ?_
  rintro e wx ⟨rfl, rfl⟩
  by_cases ea : amount = 0
  rotate_left
  · go_wp2
    go_ret
    exact ⟨by first | (simp; done) | simp [ea], HB.out⟩
  subst ea
  by_cases et : ttl = 0
  rotate_left
  · go_wp2
    go_ret
    exact ⟨by first | (simp; done) | simp [et], HB.out⟩
  subst et
  by_cases eo : other = ⟨#[]⟩
  · subst eo
    go_wp2
    go_ret
    exact ⟨by first | rfl | simp, HB.out⟩
  have eo' : (other.toList == []) = false := by have := str_no eo; simpa using this
  go_wp2
  go_ret
  exact ⟨by first | (simp; done) | simp [eo], HB.out⟩

end Go.Proofs.YtmojpiofdfmdgabDoor
set_option linter.unusedVariables false
namespace Go.Proofs.YtmojpiofdfmdgabDoor
open Go.ChangeShapes Go.WideShapes Go.ChangeAt Go.RowKit

def trB (s : ByteArray) : Bool := digs s && decide (s.size = 6)
def headB (q : ReqD) : Bool := isOp q.op && (decide (q.mti = opTxt 0 q.op) && (acctIdB q.acct && trB q.trace))
def holdP (u : Bool) (s : ByteArray) : Bool := if u = true then idOk s else decide (s = ⟨#[]⟩)
def amtP (u : Bool) (n : Int) : Bool := if u = true then decide (0 ≤ n ∧ n ≤ 999999999999) else decide (n = 0)
def ttlP (u : Bool) (n : Int) : Bool := if u = true then decide (0 ≤ n ∧ n ≤ 9999) else decide (n = 0)
def othP (u : Bool) (s : ByteArray) : Bool := if u = true then acctIdB s else decide (s = ⟨#[]⟩)
def restB (q : ReqD) : Bool := holdP (holdU q.op) q.hold && (amtP (amtU q.op) q.amount && (ttlP (decide (q.op = 1)) q.ttl && othP (decide (q.op = 6)) q.other))
def reqOk (q : ReqD) : Bool := headB q && restB q
set_option maxRecDepth 100000 in
theorem headB_iff {q : ReqD} : headB q = true ↔ isOp q.op = true ∧ q.mti = opTxt 0 q.op ∧ acctIdB q.acct = true ∧ digs q.trace = true ∧ q.trace.size = 6 := by
  simp [headB, trB, Bool.and_eq_true, decide_eq_true_eq]
set_option maxRecDepth 100000 in
theorem specReqOk_any (q : ReqD) (w : World) (hq : qBig q) : Calls Tryd.prog 5 #[qV q] w fun e w' => e = .returned (.bool (reqOk q)) ∧ Below w.heap.size w w' := by
  obtain ⟨z1, z2, z3, z4, z5⟩ := hq
  cases hh : headB q
  · rw [show reqOk q = false by simp [reqOk, hh]]
    refine specReqOk_early q.op q.acct q.other q.hold q.trace q.mti _ q.amount q.ttl w z1 z2 z3 z4 rfl fun h => ?_
    rw [headB_iff.2 h] at hh
    cases hh
  · obtain ⟨h1, h2, h3, h4, h5⟩ := headB_iff.1 hh
    rw [show reqOk q = restB q by simp [reqOk, hh]]
    have h8 : 1 ≤ q.op ∧ q.op ≤ 8 := of_decide_eq_true h1
    have hc : q.op = 1 ∨ (q.op = 2 ∨ q.op = 3 ∨ q.op = 4) ∨ q.op = 5 ∨ q.op = 6 ∨ (q.op = 7 ∨ q.op = 8) := by omega
    obtain ⟨op, acct, other, hold, trace, mti, amount, ttl⟩ := q
    simp only at h1 h2 h3 h4 h5 hc z1 z2 z3 z4
    rcases hc with rfl | hc | rfl | rfl | hc
    · exact specReqOk_auth 1 acct other hold trace mti _ amount ttl w z1 z2 z3 z4 rfl rfl h2 h3 h4 h5
    · have k1 : isOp op = true := h1
      have e1 : holdU op = true := by rw [holdU, k1]; simp; omega
      have e2 : amtU op = true := by simp [amtU]; omega
      have e3 : decide (op = 1) = false := decide_eq_false (by omega)
      have e4 : decide (op = 6) = false := decide_eq_false (by omega)
      rw [show restB ⟨op, acct, other, hold, trace, mti, amount, ttl⟩ = (holdP (holdU op) hold && (amtP (amtU op) amount && (ttlP (decide (op = 1)) ttl && othP (decide (op = 6)) other))) from rfl, e1, e2, e3, e4]
      exact specReqOk_amt op acct other hold trace mti _ amount ttl w z1 z2 z3 z4 hc rfl h2 h3 h4 h5
    · exact specReqOk_free 5 acct other hold trace mti _ amount ttl w z1 z2 z3 z4 rfl rfl h2 h3 h4 h5
    · exact specReqOk_move 6 acct other hold trace mti _ amount ttl w z1 z2 z3 z4 rfl rfl h2 h3 h4 h5
    · have k1 : isOp op = true := h1
      have e1 : holdU op = false := by rw [holdU, k1]; simp; omega
      have e2 : amtU op = false := by simp [amtU]; omega
      have e3 : decide (op = 1) = false := decide_eq_false (by omega)
      have e4 : decide (op = 6) = false := decide_eq_false (by omega)
      rw [show restB ⟨op, acct, other, hold, trace, mti, amount, ttl⟩ = (holdP (holdU op) hold && (amtP (amtU op) amount && (ttlP (decide (op = 1)) ttl && othP (decide (op = 6)) other))) from rfl, e1, e2, e3, e4]
      exact specReqOk_plain op acct other hold trace mti _ amount ttl w z1 z2 z3 z4 hc rfl h2 h3 h4 h5
end Go.Proofs.YtmojpiofdfmdgabDoor
set_option linter.unusedVariables false
namespace Go.Proofs.YtmojpiofdfmdgabDoor
open Go.ChangeShapes Go.WideShapes Go.ChangeAt Go.RowKit

set_option maxRecDepth 100000 in
set_option maxHeartbeats 8000000 in
theorem requestOf_plain (op : Int) (hop : op < 1 ∨ 6 < op) (acct other hold trace mti : ByteArray) (amount ttl : Int) (w : World) :
    Calls Tryd.prog 16 #[.agg #[.int .i64 op, .string acct, .string other, .string hold, .string trace, .string mti, .int .i64 amount, .int .i64 ttl]] w fun e w' => e = .returned (.iface 41 (.agg #[.int .i64 op, .string acct, .string trace])) ∧ Below w.heap.size w w' := by
  have n1 : (op == 1) = false := by simp; omega
  have n2 : (op == 2) = false := by simp; omega
  have n3 : (op == 3) = false := by simp; omega
  have n4 : (op == 4) = false := by simp; omega
  have n5 : (op == 5) = false := by simp; omega
  have n6 : (op == 6) = false := by simp; omega
  clear hop
  have HB : Hid (∀ o1 o2 o3 o4, Below w.heap.size w ((((w.alloc o1).alloc o2).alloc o3).alloc o4)) := Lib.hid fun o1 o2 o3 o4 => (((((Below.refl _ _).alloc (Nat.le_refl _) o1).alloc (by simp) o2).alloc (by simp; omega) o3).alloc (by simp; omega) o4)
  go_enter Tryd.func16, Tryd.ntmps16
  go_wp2
  go_ret
  exact ⟨rfl, HB.out _ _ _ _⟩
set_option maxRecDepth 100000 in
set_option maxHeartbeats 8000000 in
theorem requestOf_free (acct other hold trace mti : ByteArray) (amount ttl : Int) (w : World) :
    Calls Tryd.prog 16 #[.agg #[.int .i64 5, .string acct, .string other, .string hold, .string trace, .string mti, .int .i64 amount, .int .i64 ttl]] w fun e w' => e = .returned (.iface 43 (.agg #[.int .i64 5, .string acct, .string trace, .string hold])) ∧ Below w.heap.size w w' := by
  have HB : Hid (∀ o1 o2 o3 o4, Below w.heap.size w ((((w.alloc o1).alloc o2).alloc o3).alloc o4)) := Lib.hid fun o1 o2 o3 o4 => (((((Below.refl _ _).alloc (Nat.le_refl _) o1).alloc (by simp) o2).alloc (by simp; omega) o3).alloc (by simp; omega) o4)
  go_enter Tryd.func16, Tryd.ntmps16
  go_wp2
  go_ret
  exact ⟨rfl, HB.out _ _ _ _⟩
set_option maxRecDepth 100000 in
set_option maxHeartbeats 8000000 in
theorem requestOf_amt (op : Int) (hop : op = 2 ∨ op = 3 ∨ op = 4) (acct other hold trace mti : ByteArray) (amount ttl : Int) (w : World) :
    Calls Tryd.prog 16 #[.agg #[.int .i64 op, .string acct, .string other, .string hold, .string trace, .string mti, .int .i64 amount, .int .i64 ttl]] w fun e w' => e = .returned (.iface 45 (.agg #[.int .i64 op, .string acct, .string trace, .string hold, .int .i64 amount])) ∧ Below w.heap.size w w' := by
  rcases hop with rfl | rfl | rfl
  all_goals have HB : Hid (∀ o1 o2 o3 o4, Below w.heap.size w ((((w.alloc o1).alloc o2).alloc o3).alloc o4)) := Lib.hid fun o1 o2 o3 o4 => (((((Below.refl _ _).alloc (Nat.le_refl _) o1).alloc (by simp) o2).alloc (by simp; omega) o3).alloc (by simp; omega) o4)
  all_goals go_enter Tryd.func16, Tryd.ntmps16
  all_goals go_wp2
  all_goals go_ret
  all_goals exact ⟨rfl, HB.out _ _ _ _⟩
set_option maxRecDepth 100000 in
set_option maxHeartbeats 8000000 in
theorem requestOf_auth (acct other hold trace mti : ByteArray) (amount ttl : Int) (w : World) :
    Calls Tryd.prog 16 #[.agg #[.int .i64 1, .string acct, .string other, .string hold, .string trace, .string mti, .int .i64 amount, .int .i64 ttl]] w fun e w' => e = .returned (.iface 47 (.agg #[.int .i64 1, .string acct, .string trace, .string hold, .int .i64 amount, .int .i64 ttl])) ∧ Below w.heap.size w w' := by
  have HB : Hid (∀ o1 o2 o3 o4, Below w.heap.size w ((((w.alloc o1).alloc o2).alloc o3).alloc o4)) := Lib.hid fun o1 o2 o3 o4 => (((((Below.refl _ _).alloc (Nat.le_refl _) o1).alloc (by simp) o2).alloc (by simp; omega) o3).alloc (by simp; omega) o4)
  go_enter Tryd.func16, Tryd.ntmps16
  go_wp2
  go_ret
  exact ⟨rfl, HB.out _ _ _ _⟩
set_option maxRecDepth 100000 in
set_option maxHeartbeats 8000000 in
theorem requestOf_move (acct other hold trace mti : ByteArray) (amount ttl : Int) (w : World) :
    Calls Tryd.prog 16 #[.agg #[.int .i64 6, .string acct, .string other, .string hold, .string trace, .string mti, .int .i64 amount, .int .i64 ttl]] w fun e w' => e = .returned (.iface 49 (.agg #[.int .i64 6, .string acct, .string trace, .string hold, .string other])) ∧ Below w.heap.size w w' := by
  have HB : Hid (∀ o1 o2 o3 o4, Below w.heap.size w ((((w.alloc o1).alloc o2).alloc o3).alloc o4)) := Lib.hid fun o1 o2 o3 o4 => (((((Below.refl _ _).alloc (Nat.le_refl _) o1).alloc (by simp) o2).alloc (by simp; omega) o3).alloc (by simp; omega) o4)
  go_enter Tryd.func16, Tryd.ntmps16
  go_wp2
  go_ret
  exact ⟨rfl, HB.out _ _ _ _⟩
end Go.Proofs.YtmojpiofdfmdgabDoor
set_option linter.unusedVariables false
namespace Go.Proofs.YtmojpiofdfmdgabDoor
open Go.ChangeShapes Go.WideShapes Go.ChangeAt Go.RowKit

def opRowV (op : Int) : Value := .agg #[.string (opTxt 0 op), .string (opTxt 1 op), .string (opTxt 2 op)]
set_option maxRecDepth 100000 in
theorem opAt_any (op : Int) (w : World) (hO : opsIn w) : Calls Tryd.prog 22 #[.int .i64 op] w fun e w' => e = .returned (opRowV op) ∧ Below w.heap.size w w' := by
  by_cases h0 : op < 0
  · have HR : Hid (opRowV op = .agg #[.string ⟨#[]⟩, .string ⟨#[]⟩, .string ⟨#[]⟩]) := Lib.hid (by unfold opRowV; rw [opTxt_neg 0 h0, opTxt_neg 1 h0, opTxt_neg 2 h0])
    rw [HR.out]
    clear hO
    go_enter Tryd.func22, Tryd.ntmps22
    go_wp2
    exact bodyPost_ret (v := .agg #[.string ⟨#[]⟩, .string ⟨#[]⟩, .string ⟨#[]⟩]) (by simp [results, Tryd.results22, go_sem]) rfl ⟨rfl, by first | exact (((Below.refl _ _).alloc (Nat.le_refl _) _).set _ _ (by simp)) | exact ((Below.refl _ _).alloc (Nat.le_refl _) _)⟩
  · by_cases h9 : 9 ≤ op
    · have HR : Hid (opRowV op = .agg #[.string ⟨#[]⟩, .string ⟨#[]⟩, .string ⟨#[]⟩]) := Lib.hid (by unfold opRowV; rw [opTxt_out 0 (by omega), opTxt_out 1 (by omega), opTxt_out 2 (by omega)])
      rw [HR.out]
      clear hO
      go_enter Tryd.func22, Tryd.ntmps22
      go_wp2
      exact bodyPost_ret (v := .agg #[.string ⟨#[]⟩, .string ⟨#[]⟩, .string ⟨#[]⟩]) (by simp [results, Tryd.results22, go_sem]) rfl ⟨rfl, ((Below.refl _ _).alloc (Nat.le_refl _) _)⟩
    · obtain ⟨i, rfl⟩ := Int.eq_ofNat_of_zero_le (show 0 ≤ op by omega)
      have HR : Hid (opRowV (i : Int) = .agg #[.string ⟨(opB 0 i).toArray⟩, .string ⟨(opB 1 i).toArray⟩, .string ⟨(opB 2 i).toArray⟩]) := Lib.hid (by unfold opRowV; rw [opTxt_nat, opTxt_nat, opTxt_nat])
      rw [HR.out]
      have hlt := hO.lt
      have c0 := hO i 0 (by omega) (by omega)
      have c1 := hO i 1 (by omega) (by omega)
      have c2 := hO i 2 (by omega) (by omega)
      rw [Nat.add_zero] at c0
      have g0 : 0 ≤ (i : Int) := by omega
      have g1 : (i : Int) < 9 := by omega
      clear hO h9 h0
      go_enter Tryd.func22, Tryd.ntmps22
      go_wp2
      exact bodyPost_ret (v := .agg #[.string ⟨(opB 0 i).toArray⟩, .string ⟨(opB 1 i).toArray⟩, .string ⟨(opB 2 i).toArray⟩]) (by simp [results, Tryd.results22, go_sem]) rfl ⟨rfl, ((Below.refl _ _).alloc (Nat.le_refl _) _)⟩
set_option maxRecDepth 100000 in
theorem opRow_f0 (a b c : ByteArray) (w : World) : (Instr.field 52 (.agg #[.string a, .string b, .string c]) 0).run Tryd.prog w = .ok (.string a) w := by rfl
set_option maxRecDepth 100000 in
theorem opRow_f2 (a b c : ByteArray) (w : World) : (Instr.field 52 (.agg #[.string a, .string b, .string c]) 2).run Tryd.prog w = .ok (.string c) w := by rfl
set_option maxRecDepth 100000 in
theorem implOpMti_any (op : Int) (w : World) (hO : opsIn w) : Calls Tryd.prog 20 #[.int .i64 op] w fun e w' => e = .returned (.string (opTxt 0 op)) ∧ Below w.heap.size w w' := by
  go_enter Tryd.func20, Tryd.ntmps20
  go_wp2_with fail
  refine (opAt_any op _ hO).mono ?_
  rintro e w1 ⟨rfl, hb⟩
  unfold opRowV
  have hf := opRow_f0 (opTxt 0 op) (opTxt 1 op) (opTxt 2 op)
  go_wp2
  go_ret
  exact ⟨rfl, hb⟩
set_option maxRecDepth 100000 in
theorem implOpName_any (op : Int) (w : World) (hO : opsIn w) : Calls Tryd.prog 40 #[.int .i64 op] w fun e w' => e = .returned (.string (opTxt 2 op)) ∧ Below w.heap.size w w' := by
  go_enter Tryd.func40, Tryd.ntmps40
  go_wp2_with fail
  refine (opAt_any op _ hO).mono ?_
  rintro e w1 ⟨rfl, hb⟩
  unfold opRowV
  have hf := opRow_f2 (opTxt 0 op) (opTxt 1 op) (opTxt 2 op)
  go_wp2
  go_ret
  exact ⟨rfl, hb⟩
end Go.Proofs.YtmojpiofdfmdgabDoor
set_option linter.unusedVariables false
namespace Go.Proofs.YtmojpiofdfmdgabDoor
open Go.ChangeShapes Go.WideShapes Go.ChangeAt Go.RowKit

/-- the blocks of the elements lie one after the other -/
structure Steps (m : Nat → Nat) (n : Nat) : Prop where
  up : ∀ j, j < n → m j ≤ m (j + 1)
set_option maxRecDepth 100000 in
theorem Steps.le {m : Nat → Nat} {n : Nat} (h : Steps m n) {j : Nat} : ∀ {k : Nat}, j ≤ k → k ≤ n → m j ≤ m k
  | 0, hj, _ => by obtain rfl : j = 0 := by omega
                   exact Nat.le_refl _
  | k + 1, hj, hk => by
    rcases Nat.lt_or_ge j (k + 1) with h1 | h1
    · exact Nat.le_trans (h.le (j := j) (k := k) (by omega) (by omega)) (h.up k (by omega))
    · obtain rfl : j = k + 1 := by omega
      exact Nat.le_refl _
set_option maxRecDepth 100000 in
theorem filled.congr {w : World} {b off k n i : Nat} {E E' : Nat → List Value} (h : filled w b off k n i E) (he : ∀ j, j < i → E' j = E j) : filled w b off k n i E' :=
  ⟨h.room, fun j hj => by rw [he j hj]; exact h.at_ j hj⟩
set_option maxRecDepth 100000 in
theorem rows_mine2 {α : Type} {R : Rep α} {lo hi b off c n : Nat} {w : World} {l : List α} {E : Nat → List Value} {p q : Nat → Nat} (hn : n = l.length) (hc : n ≤ c) (h1 : lo ≤ b) (h2 : b < hi) (hord : ∀ i j, i < j → j < n → q i ≤ p j) (hb : ∀ j, j < n → b < p j ∨ q j ≤ b) (hbs : ∀ j, j < n → lo ≤ p j ∧ q j ≤ hi)
    (hat : filled w b off R.k n n E) (h : ∀ j x, l[j]? = some x → R.mine (p j) (q j) w (E j) x) : R.slice.mine lo hi w [.slice (some ⟨b, off, none⟩) n c] l := by
  subst hn
  have hF : ∀ j : Nat, ∃ F : List Nat, ∀ x, l[j]? = some x → R.own w (E j) x F ∧ F.Nodup ∧ ∀ b ∈ F, p j ≤ b ∧ b < q j := fun j => by
    cases hx : l[j]? with
    | none => exact ⟨[], fun x h => by cases h⟩
    | some y =>
      obtain ⟨F, hF⟩ := h j y hx
      exact ⟨F, fun x h => by cases h; exact hF⟩
  let F : Nat → List Nat := fun j => Classical.choose (hF j)
  have hFs : ∀ j x, l[j]? = some x → R.own w (E j) x (F j) ∧ (F j).Nodup ∧ ∀ b ∈ F j, p j ≤ b ∧ b < q j := fun j => Classical.choose_spec (hF j)
  have hgt : ∀ (j : Nat) (hj : j < l.length), R.own w (E j) (l[j]'hj) (F j) ∧ (F j).Nodup ∧ ∀ b ∈ F j, p j ≤ b ∧ b < q j := fun j hj => hFs j _ (List.getElem?_eq_getElem hj)
  have hin : ∀ x ∈ List.flatten ((List.range l.length).map F), ∃ j, j < l.length ∧ p j ≤ x ∧ x < q j := fun x hx => by
    obtain ⟨G, hG, hxG⟩ := List.mem_flatten.1 hx
    obtain ⟨j, hj, rfl⟩ := List.mem_map.1 hG
    have hj' := List.mem_range.1 hj
    exact ⟨j, hj', (hgt j hj').2.2 x hxG⟩
  refine ⟨b :: List.flatten ((List.range l.length).map F), ⟨some ⟨b, off, none⟩, c, rfl, hc, .inr ⟨b, off, _, rfl, rfl, by simp, fun j x G hx hG => ?_⟩⟩, ?_, ?_⟩
  · have hj := (List.getElem?_eq_some_iff.1 hx).1
    have hG' : G = F j := by
      rw [List.getElem?_map, List.getElem?_range hj] at hG
      exact (Option.some.inj hG).symm
    subst hG'
    exact ⟨E j, (hFs j x hx).1, hat.at_ j hj, fun t ht => (hat.cells hj t ht).2⟩
  · rw [List.nodup_cons]
    refine ⟨fun hx => by obtain ⟨j, hj, h3⟩ := hin b hx; have := hb j hj; omega, ?_⟩
    rw [List.Nodup, List.pairwise_flatten]
    refine ⟨fun G hG => ?_, ?_⟩
    · obtain ⟨j, hj, rfl⟩ := List.mem_map.1 hG
      exact (hgt j (List.mem_range.1 hj)).2.1
    · rw [List.pairwise_map]
      refine List.Pairwise.imp_of_mem ?_ List.pairwise_lt_range
      intro i j hi' hj' hij x hx y hy
      have h3 := (hgt i (List.mem_range.1 hi')).2.2 x hx
      have h4 := (hgt j (List.mem_range.1 hj')).2.2 y hy
      have h5 := hord i j hij (List.mem_range.1 hj')
      omega
  · intro b' hb'
    rcases List.mem_cons.1 hb' with rfl | hb'
    · exact ⟨h1, h2⟩
    · obtain ⟨j, hj, h3⟩ := hin b' hb'
      have := hbs j hj; omega
set_option maxRecDepth 100000 in
theorem rows_mine {α : Type} {R : Rep α} {lo hi b off c n : Nat} {w : World} {l : List α} {E : Nat → List Value} {m : Nat → Nat} (hn : n = l.length) (hc : n ≤ c) (h1 : lo ≤ b) (h2 : b < m 0) (hm : Steps m n) (hhi : m n ≤ hi)
    (hat : filled w b off R.k n n E) (h : ∀ j x, l[j]? = some x → R.mine (m j) (m (j + 1)) w (E j) x) : R.slice.mine lo hi w [.slice (some ⟨b, off, none⟩) n c] l := by
  refine rows_mine2 (p := m) (q := fun j => m (j + 1)) hn hc h1 ?_ (fun i j hij hj => hm.le (show i + 1 ≤ j by omega) (by omega)) (fun j hj => .inl ?_) (fun j hj => ⟨?_, ?_⟩) hat h
  · have := hm.le (Nat.zero_le n) (Nat.le_refl _); omega
  · have := hm.le (Nat.zero_le j) (by omega); omega
  · have := hm.le (Nat.zero_le j) (by omega); omega
  · have := hm.le (show j + 1 ≤ n by omega) (Nat.le_refl _); omega
end Go.Proofs.YtmojpiofdfmdgabDoor
set_option linter.unusedVariables false
namespace Go.Proofs.YtmojpiofdfmdgabDoor
open Go.ChangeShapes Go.WideShapes Go.ChangeAt Go.RowKit

end Go.Proofs.YtmojpiofdfmdgabDoor
set_option linter.unusedVariables false
namespace Go.Proofs.YtmojpiofdfmdgabDoor
open Go.ChangeShapes Go.WideShapes Go.ChangeAt Go.RowKit

set_option maxRecDepth 100000 in
theorem nums.turned {K : IntKind} {lo hi lo' hi' : Nat} {w w' : World} {v : Value} {l : List Int} (h : nums K lo hi w v l) (ht : Turned lo' hi' w w') (h1 : hi ≤ lo' ∨ hi' ≤ lo) (h2 : hi ≤ w.heap.size) : nums K lo hi w' v l := by
  obtain ⟨A, c, rfl, hc, hj⟩ := h
  refine ⟨A, c, rfl, hc, fun j hl => ?_⟩
  obtain ⟨b, off, e, g1, g2, g3, g4⟩ := hj j hl
  have hk := ht.block b (by omega) (by omega)
  exact ⟨b, off, e, g1, g2, (cell_keep hk).trans g3, (frozen_keep hk).trans g4⟩
set_option maxRecDepth 100000 in
theorem rd.turned {K : IntKind} {hi lo' hi' : Nat} {w w' : World} {v : Value} {l : List Int} (h : rd K hi w v l) (ht : Turned lo' hi' w w') (h1 : hi ≤ lo') (h2 : hi ≤ w.heap.size) : rd K hi w' v l := by
  obtain ⟨A, c, rfl, hc, hj⟩ := h
  refine ⟨A, c, rfl, hc, fun j hl => ?_⟩
  obtain ⟨b, off, e, g2, g3⟩ := hj j hl
  have hk := ht.block b (by omega) (by omega)
  exact ⟨b, off, e, g2, (cell_keep hk).trans g3⟩
end Go.Proofs.YtmojpiofdfmdgabDoor
set_option linter.unusedVariables false
namespace Go.Proofs.YtmojpiofdfmdgabDoor
open Go.ChangeShapes Go.WideShapes Go.ChangeAt Go.RowKit

/-- trace, type, reply -/
abbrev SlotD := ByteArray × ByteArray × List Int
def BytesR : Rep (List Int) := (Rep.int .u8).slice
def SlotR : Rep SlotD := Rep.pair Rep.str (Rep.pair Rep.str BytesR)
def SlotsR : Rep (List SlotD) := SlotR.slice
set_option maxRecDepth 100000 in
/-- numbers of one's own as such a row -/
theorem nums_rep {K : IntKind} {lo hi : Nat} {w : World} {v : Value} {l : List Int} (h : nums K lo hi w v l) : (Rep.int K).slice.mine lo hi w [v] l := by
  obtain ⟨A, c, rfl, hc, hj⟩ := h
  cases l with
  | nil => exact ⟨[], ⟨A, c, rfl, hc, .inl ⟨rfl, rfl⟩⟩, List.nodup_nil, by simp⟩
  | cons y l =>
    obtain ⟨b, off, rfl, h1, h2, -, -⟩ := hj 0 (by simp)
    have hfl : List.flatten ((y :: l).map fun _ => ([] : List Nat)) = [] := by simp
    refine ⟨b :: List.flatten ((y :: l).map fun _ => []), ⟨_, c, rfl, hc, .inr ⟨b, off, _, rfl, rfl, by simp, fun j x G hx hG => ?_⟩⟩, by rw [hfl]; simp, ?_⟩
    · have hjl := (List.getElem?_eq_some_iff.1 hx).1
      have hG' : G = [] := by rw [List.getElem?_map, hx] at hG; simpa using hG.symm
      subst hG'
      obtain ⟨b', off', e, -, -, h3, h4⟩ := hj j hjl
      simp only [Option.some.injEq, Addr.mk.injEq, and_true] at e
      obtain ⟨rfl, rfl⟩ := e
      rw [List.getD_eq_getElem?_getD, hx] at h3
      have hk : off + j * (Rep.int K).k = off + j := by show off + j * 1 = _; rw [Nat.mul_one]
      refine ⟨[.int K x], ⟨rfl, rfl⟩, atL_one.2 (by rw [hk]; exact h3), fun t ht => ?_⟩
      have ht0 : t = 0 := by have : t < 1 := ht; omega
      subst ht0
      rw [hk]; exact h4
    · rw [hfl]; intro b' hb'; rw [List.mem_singleton.1 hb']; exact ⟨h1, h2⟩
set_option maxRecDepth 100000 in
theorem slot_mine_of {lo hi : Nat} {w : World} {u : Value} {x : SlotD} (h : nums .u8 lo hi w u x.2.2) : SlotR.mine lo hi w [.string x.1, .string x.2.1, u] x := by
  obtain ⟨F, h1, h2, h3⟩ := nums_rep h
  exact ⟨F, ⟨[_], [_, u], [], F, rfl, rfl, ⟨rfl, rfl⟩, [_], [u], [], F, rfl, rfl, ⟨rfl, rfl⟩, h1⟩, h2, h3⟩
end Go.Proofs.YtmojpiofdfmdgabDoor
set_option linter.unusedVariables false
namespace Go.Proofs.YtmojpiofdfmdgabDoor
open Go.ChangeShapes Go.WideShapes Go.ChangeAt Go.RowKit

/-- the first i elements stand, each with memory of its own behind the row's -/
def grows (w : World) (g n i : Nat) (l : List SlotD) (E : Nat → List Value) (m : Nat → Nat) : Prop :=
  filled w g 0 3 n i E ∧ (∀ j, (E j).length = 3) ∧ Steps m i ∧ g < m 0 ∧ m i ≤ w.heap.size ∧ ∀ j x, j < i → l[j]? = some x → SlotR.mine (m j) (m (j + 1)) w (E j) x
set_option maxRecDepth 100000 in
theorem Steps.put {m : Nat → Nat} {i M : Nat} (h : Steps m i) (hM : m i ≤ M) : Steps (fun j => if j = i + 1 then M else m j) (i + 1) := ⟨fun j hj => by
  show (if j = i + 1 then M else m j) ≤ (if j + 1 = i + 1 then M else m (j + 1))
  by_cases e : j = i
  · subst e
    rw [if_neg (by omega), if_pos rfl]; exact hM
  · rw [if_neg (by omega), if_neg (by omega)]; exact h.up j (by omega)⟩
set_option maxRecDepth 100000 in
theorem grows.next {w w2 : World} {g n i : Nat} {l : List SlotD} {E : Nat → List Value} {m : Nat → Nat} {x : SlotD} {u : Value} (h : grows w g n i l E m) (hb : Below w.heap.size w w2) (hx : l[i]? = some x) (hin : i < n) (hg : g < w.heap.size)
    (hu : nums .u8 w.heap.size w2.heap.size w2 u x.2.2) :
    grows (setsAt w2 g (i * 3) [.string x.1, .string x.2.1, u]) g n (i + 1) l (fun j => if j = i then [.string x.1, .string x.2.1, u] else E j) (fun j => if j = i + 1 then w2.heap.size else m j) := by
  obtain ⟨h1, h2, h3, h4, h5, h6⟩ := h
  have hf : filled w2 g 0 3 n i (fun j => if j = i then [.string x.1, .string x.2.1, u] else E j) := (h1.keep (hb.block g hg)).congr fun j hj => if_neg (by omega)
  have hl : ∀ j, ((fun j => if j = i then [Value.string x.1, .string x.2.1, u] else E j) j).length = 3 := fun j => by
    simp only
    split
    · rfl
    · exact h2 j
  have hn := hf.next hin (fun j _ => hl j)
  simp only [if_true, Nat.zero_add] at hn
  have ht := setsAt_turned [.string x.1, .string x.2.1, u] w2 g (i * 3) (Turned.refl g (g + 1) w2) (Nat.le_refl _) (by omega)
  have hsz := hb.size
  have hz := ht.size
  refine ⟨hn, hl, h3.put (by omega), by show g < (if 0 = i + 1 then w2.heap.size else m 0); rw [if_neg (by omega)]; exact h4, by show (if i + 1 = i + 1 then w2.heap.size else m (i + 1)) ≤ _; rw [if_pos rfl]; exact hz, fun j y hj hy => ?_⟩
  by_cases e : j = i
  · subst e
    have hxy : y = x := Option.some.inj (hy.symm.trans hx)
    subst hxy
    show SlotR.mine (if j = j + 1 then w2.heap.size else m j) (if j + 1 = j + 1 then w2.heap.size else m (j + 1)) _ (if j = j then _ else E j) y
    rw [if_neg (by omega), if_pos rfl, if_pos rfl]
    exact ((slot_mine_of hu).turned ht (.inr (by have := h3.le (Nat.zero_le j) (Nat.le_refl _); omega)) (Nat.le_refl _)).mono (by omega) (Nat.le_refl _)
  · have hji : j < i := by omega
    show SlotR.mine (if j = i + 1 then w2.heap.size else m j) (if j + 1 = i + 1 then w2.heap.size else m (j + 1)) _ (if j = i then _ else E j) y
    rw [if_neg e, if_neg (by omega), if_neg (by omega)]
    have hm0 := h3.le (Nat.zero_le j) (by omega)
    have hm1 := h3.le (show j + 1 ≤ i by omega) (Nat.le_refl _)
    exact ((h6 j y hji hy).below hb (by omega)).turned ht (.inr (by omega)) (by omega)
set_option maxRecDepth 100000 in
theorem grows.done {w : World} {g n lo : Nat} {l : List SlotD} {E : Nat → List Value} {m : Nat → Nat} (h : grows w g n n l E m) (hn : n = l.length) (hg : lo ≤ g) : SlotsR.mine lo w.heap.size w [.slice (some ⟨g, 0, none⟩) n n] l := by
  obtain ⟨h1, h2, h3, h4, h5, h6⟩ := h
  exact rows_mine (R := SlotR) hn (Nat.le_refl _) hg h4 h3 h5 h1 fun j x hx => h6 j x (by rw [hn]; exact (List.getElem?_eq_some_iff.1 hx).1) hx
end Go.Proofs.YtmojpiofdfmdgabDoor
set_option linter.unusedVariables false
namespace Go.Proofs.YtmojpiofdfmdgabDoor
open Go.ChangeShapes Go.WideShapes Go.ChangeAt Go.RowKit

end Go.Proofs.YtmojpiofdfmdgabDoor
set_option linter.unusedVariables false
namespace Go.Proofs.YtmojpiofdfmdgabDoor
open Go.ChangeShapes Go.WideShapes Go.ChangeAt Go.RowKit

section
variable {P : Program} (w : World)
end
end Go.Proofs.YtmojpiofdfmdgabDoor
set_option linter.unusedVariables false
namespace Go.Proofs.YtmojpiofdfmdgabDoor
open Go.ChangeShapes Go.WideShapes Go.ChangeAt Go.RowKit

end Go.Proofs.YtmojpiofdfmdgabDoor
set_option linter.unusedVariables false
namespace Go.Proofs.YtmojpiofdfmdgabDoor
open Go.ChangeShapes Go.WideShapes Go.ChangeAt Go.RowKit

end Go.Proofs.YtmojpiofdfmdgabDoor
set_option linter.unusedVariables false
namespace Go.Proofs.YtmojpiofdfmdgabDoor
open Go.ChangeShapes Go.WideShapes Go.ChangeAt Go.RowKit

end Go.Proofs.YtmojpiofdfmdgabDoor
set_option linter.unusedVariables false
namespace Go.Proofs.YtmojpiofdfmdgabDoor
open Go.ChangeShapes Go.WideShapes Go.ChangeAt Go.RowKit

def traceOk (s : ByteArray) : Bool := digs s && decide (s.size = 6)
set_option maxRecDepth 100000 in
theorem isTrace_any (s : ByteArray) (w : World) (hs : s.size ≤ maxLen) :
    Calls Tryd.prog 42 #[.string s] w fun e w' => e = .returned (.bool (traceOk s)) ∧ Below w.heap.size w w' := by
  by_cases h4 : s.size = 6
  · have HM : Hid (traceOk s = digs s) := Lib.hid (by simp [traceOk, h4])
    rw [HM.out]
    have h4' : ((s.size : Int) == 6) = true := by simp [h4]
    have HD := Lib.hid (fun w' => implDigits_any s w' hs)
    clear h4
    go_enter Tryd.func42, Tryd.ntmps42
    go_wp2_with fail
    refine (HD.out _).mono ?_
    rintro e w1 ⟨rfl, hb⟩
    go_wp2
    go_ret
    exact ⟨rfl, hb⟩
  · have HM : Hid (traceOk s = false) := Lib.hid (by simp [traceOk, h4])
    rw [HM.out]
    have h4' : ((s.size : Int) == 6) = false := by simp; omega
    clear h4
    go_enter Tryd.func42, Tryd.ntmps42
    go_wp2
    go_ret
    exact ⟨rfl, Below.refl _ _⟩
end Go.Proofs.YtmojpiofdfmdgabDoor
set_option linter.unusedVariables false
namespace Go.Proofs.YtmojpiofdfmdgabDoor
open Go.ChangeShapes Go.WideShapes Go.ChangeAt Go.RowKit

set_option maxRecDepth 100000 in
theorem implAcctIdOk_any (s : ByteArray) (w : World) (hs : s.size ≤ maxLen) :
    Calls Tryd.prog 41 #[.string s] w fun e w' => e = .returned (.bool (acctIdB s)) ∧ Below w.heap.size w w' := by
  by_cases h : s.size ≤ 19
  · have HI : Hid (acctIdB s = luOk s) := Lib.hid (by unfold acctIdB; rw [decide_eq_true h]; rfl)
    have HL := Lib.hid (fun w => implLuhnOk_any s w (by omega))
    have h' : (s.size : Int) ≤ 19 := by omega
    rw [HI.out]
    generalize luOk s = b at HL
    go_enter Tryd.func41, Tryd.ntmps41
    go_wp2_with fail
    refine (HL.out _).mono ?_
    rintro e w1 ⟨rfl, hb⟩
    go_wp2
    go_ret
    exact ⟨rfl, hb⟩
  · have HI : Hid (acctIdB s = false) := Lib.hid (by unfold acctIdB; rw [decide_eq_false h]; rfl)
    have h' : ¬ (s.size : Int) ≤ 19 := by omega
    rw [HI.out]
    go_enter Tryd.func41, Tryd.ntmps41
    go_wp2
    go_ret
    exact ⟨rfl, Below.refl _ _⟩
end Go.Proofs.YtmojpiofdfmdgabDoor
set_option linter.unusedVariables false
namespace Go.Proofs.YtmojpiofdfmdgabDoor
open Go.ChangeShapes Go.WideShapes Go.ChangeAt Go.RowKit

end Go.Proofs.YtmojpiofdfmdgabDoor
set_option linter.unusedVariables false
namespace Go.Proofs.YtmojpiofdfmdgabDoor
open Go.ChangeShapes Go.WideShapes Go.ChangeAt Go.RowKit

end Go.Proofs.YtmojpiofdfmdgabDoor
set_option linter.unusedVariables false
namespace Go.Proofs.YtmojpiofdfmdgabDoor
open Go.ChangeShapes Go.WideShapes Go.ChangeAt Go.RowKit

set_option maxRecDepth 100000 in
theorem empty_yes (s : ByteArray) (h : ¬ 0 < s.size) : s.toList.isEmpty = true := by
  have := not_empty s
  rw [decide_eq_false h] at this
  simpa using this
set_option maxRecDepth 100000 in
theorem empty_no (s : ByteArray) (h : 0 < s.size) : s.toList.isEmpty = false := by
  have := not_empty s
  rw [decide_eq_true h] at this
  simpa using this
end Go.Proofs.YtmojpiofdfmdgabDoor
set_option linter.unusedVariables false
namespace Go.Proofs.YtmojpiofdfmdgabDoor
open Go.ChangeShapes Go.WideShapes Go.ChangeAt Go.RowKit

set_option maxRecDepth 100000 in
/-- a small letter, at a place: its character -/
theorem rune_low (s : ByteArray) (pos : Nat) (h : pos < s.size) (hd : isDig s[pos] = false) (hc : idCh s[pos] = true) : Utf8.decode s pos = (s[pos].toNat, 1) ∧ runeDig (s[pos].toNat : Int) = false ∧ (97 : Int) ≤ (s[pos].toNat : Int) ∧ (s[pos].toNat : Int) ≤ 122 := by
  have h1 := (isDig_no _).1 hd
  have h2 : 48 ≤ s[pos].toNat ∧ s[pos].toNat ≤ 57 ∨ 97 ≤ s[pos].toNat ∧ s[pos].toNat ≤ 122 := of_decide_eq_true hc
  have h3 : 97 ≤ s[pos].toNat ∧ s[pos].toNat ≤ 122 := by omega
  exact ⟨decode_ascii s pos h (by omega), by simp [runeDig]; omega, by omega, by omega⟩
set_option maxRecDepth 100000 in
/-- no sign of an id, at a place: its character -/
theorem rune_none (s : ByteArray) (pos : Nat) (h : pos < s.size) (hc : idCh s[pos] = false) : runeDig ((Utf8.decode s pos).1 : Int) = false ∧ (((Utf8.decode s pos).1 : Int) < 97 ∨ 122 < ((Utf8.decode s pos).1 : Int)) := by
  have h2 : ¬ (48 ≤ s[pos].toNat ∧ s[pos].toNat ≤ 57 ∨ 97 ≤ s[pos].toNat ∧ s[pos].toNat ≤ 122) := of_decide_eq_false hc
  rcases Nat.lt_or_ge s[pos].toNat 128 with h1 | h1
  · rw [decode_ascii s pos h h1]
    exact ⟨by simp [runeDig]; omega, by show (s[pos].toNat : Int) < 97 ∨ 122 < (s[pos].toNat : Int); omega⟩
  · have := (decode_high s pos h h1).1
    exact ⟨by simp [runeDig]; omega, .inr (by omega)⟩
set_option maxRecDepth 100000 in
theorem idOk_end {s : ByteArray} {k : Nat} (hk : ¬ k < s.size) (h : (s.data.toList.take k).all idCh = true) : idOk s = decide (0 < s.size ∧ s.size ≤ 6) := by
  rw [take_end s k hk] at h
  rw [idOk_yes h]
  unfold inB
  exact decide_eq_decide.2 ⟨fun ⟨_, _⟩ => ⟨by omega, by omega⟩, fun ⟨_, _⟩ => ⟨by omega, by omega⟩⟩
set_option maxRecDepth 100000 in
set_option maxHeartbeats 1600000 in
theorem implHoldIdOk_any (s : ByteArray) (w : World) (hs : s.size ≤ maxLen) :
    Calls Tryd.prog 50 #[.string s] w fun e w' => e = .returned (.bool (idOk s)) ∧ Below w.heap.size w w' := by
  unfold maxLen at hs
  go_enter Tryd.func50, Tryd.ntmps50
  go_wp2
  go_loopw [2] (fun _ wr => ∃ k : Nat, k ≤ s.size ∧ wr = w.iter s k ∧ (s.data.toList.take k).all idCh = true) (fun _ wr => s.size - wr.iterPos w.heap.size)
  case atStart => exact ⟨0, Nat.zero_le _, rfl, rfl⟩
  case round =>
    obtain ⟨k, hk, rfl, ha0⟩ := hrel
    have ha := Lib.hid ha0
    clear ha0
    by_cases hlt : k < s.size
    · cases hc : idCh s[k]
      · obtain ⟨hr, hr2⟩ := rune_none s k hlt hc
        have HF := Lib.hid (idOk_not (all_not (p := idCh) hlt hc))
        have hnx : ∀ ty, (Instr.next (.pointer (some ⟨w.heap.size, 0, none⟩)) true ty).run Tryd.prog (w.iter s k) = _ := fun ty => run_next_any w s k ty hlt
        generalize hq : Utf8.decode s k = q at hnx hr hr2
        obtain ⟨r, wd⟩ := q
        clear hq
        simp only at hr hr2
        rcases hr2 with hr2 | hr2
        · go_wp2_with (go_at_call 46; refine (isDigit_any _ _).mono ?_; rintro e w' ⟨rfl, rfl⟩)
          go_ret
          exact ⟨ret_bool HF.out.symm, below_iter _ _ _⟩
        · have hr3 : ¬ (r : Int) < 97 := by omega
          go_wp2_with (go_at_call 46; refine (isDigit_any _ _).mono ?_; rintro e w' ⟨rfl, rfl⟩)
          go_ret
          exact ⟨ret_bool HF.out.symm, below_iter _ _ _⟩
      · have hb := Lib.hid (all_step (p := idCh) hlt ha.out hc)
        have hnx : ∀ ty, (Instr.next (.pointer (some ⟨w.heap.size, 0, none⟩)) true ty).run Tryd.prog (w.iter s k) = _ := fun ty => run_next_any w s k ty hlt
        cases hd : isDig s[k]
        · obtain ⟨hdec, hr, hr2, hr3⟩ := rune_low s k hlt hd hc
          rw [hdec] at hnx
          clear hdec hd hc
          go_wp2_with (go_at_call 46; refine (isDigit_any _ _).mono ?_; rintro e w' ⟨rfl, rfl⟩)
          go_roundw
          case rel => exact ⟨k + 1, by omega, rfl, hb.out⟩
          case measure => simp <;> omega
        · obtain ⟨hdec, hr⟩ := rune_dig s k hlt hd
          rw [hdec] at hnx
          clear hdec hd hc
          go_wp2_with (go_at_call 46; refine (isDigit_any _ _).mono ?_; rintro e w' ⟨rfl, rfl⟩)
          go_roundw
          case rel => exact ⟨k + 1, by omega, rfl, hb.out⟩
          case measure => simp <;> omega
    · have HV := Lib.hid (idOk_end hlt ha.out)
      have hnx : ∀ ty, (Instr.next (.pointer (some ⟨w.heap.size, 0, none⟩)) true ty).run Tryd.prog (w.iter s k) = _ := fun ty => run_next_end w s k ty hlt
      by_cases h0 : 0 < s.size
      · have hE := empty_no s h0
        go_wp2
        go_ret
        exact ⟨ret_bool (by rw [HV.out]; exact decide_eq_decide.2 ⟨fun _ => ⟨h0, by omega⟩, fun _ => by omega⟩), below_iter _ _ _⟩
      · have hE := empty_yes s h0
        go_wp2
        go_ret
        exact ⟨ret_bool (by rw [HV.out]; exact (decide_eq_false (fun h => h0 h.1)).symm), below_iter _ _ _⟩
end Go.Proofs.YtmojpiofdfmdgabDoor
set_option linter.unusedVariables false
namespace Go.Proofs.YtmojpiofdfmdgabDoor
open Go.ChangeShapes Go.WideShapes Go.ChangeAt Go.RowKit

def plainB (op : Int) (acct trace : ByteArray) : Bool := isOp op && (acctIdB acct && trB trace)
set_option maxRecDepth 100000 in
set_option maxHeartbeats 1600000 in
theorem plainOk_any (op : Int) (acct trace : ByteArray) (w : World) (hO : opsIn w) (hs1 : acct.size ≤ maxLen) (hs4 : trace.size ≤ maxLen) :
    Calls Tryd.prog 38 #[.agg #[.int .i64 op, .string acct, .string trace]] w fun e w' => e = .returned (.bool (plainB op acct trace)) ∧ Below w.heap.size w w' := by
  have HN := Lib.hid (fun V (hV : Below w.heap.size w V) => implOpName_any op V (hO.below hV))
  have HA := Lib.hid (fun V => implAcctIdOk_any acct V hs1)
  have HT : Hid (∀ V, Calls Tryd.prog 42 #[.string trace] V fun e w' => e = .returned (.bool (trB trace)) ∧ Below V.heap.size V w') := Lib.hid (fun V => isTrace_any trace V hs4)
  have HP : Hid (plainB op acct trace = (isOp op && (acctIdB acct && trB trace))) := Lib.hid rfl
  generalize plainB op acct trace = r at HP
  generalize acctIdB acct = b2 at HA HP
  generalize trB trace = b3 at HT HP
  have HB0 : Hid (∀ o, Below w.heap.size w (w.alloc o)) := Lib.hid fun o => (Below.refl _ _).alloc (Nat.le_refl _) o
  clear hO hs1 hs4
  by_cases h1 : 1 ≤ op ∧ op ≤ 8
  · have k1 : isOp op = true := decide_eq_true h1
    have en : ((opTxt 2 op).toList == []) = false := by
      rcases op_cases h1 with rfl | rfl | rfl | rfl | rfl | rfl | rfl | rfl <;> decide +kernel
    rw [HP.out, k1]
    clear h1 k1
    go_enter Tryd.func38, Tryd.ntmps38
    go_upto_region 1 with fail
    obtain ⟨W, hW⟩ : ∃ W, W = w.alloc (.cells #[.int .i64 op, .string acct, .string trace] 41) := ⟨_, rfl⟩
    have b0 : bk W w.heap.size 41 [.int .i64 op, .string acct, .string trace] := by rw [hW]; exact bk.new w _ _
    have HB : Hid (Below w.heap.size w W) := Lib.hid (by rw [hW]; exact HB0.out _)
    have z0 := b0.lt
    rw [← hW]
    clear hW
    have B0 := Lib.hid b0
    obtain ⟨p0, p1, p2⟩ := b0.cells3
    clear b0
    go_wp2_with fail
    refine (HN.out W HB.out).mono ?_
    rintro e w1 ⟨rfl, hb1⟩
    have z1 := hb1.size
    have HB1 : Hid (Below w.heap.size w w1) := Lib.hid (HB.out.trans (hb1.mono (by omega)))
    have B1 := Lib.hid (B0.out.below hb1 z0)
    clear hb1 p0 p1 p2 B0 HB
    obtain ⟨p0, p1, p2⟩ := B1.out.cells3
    go_wp2_with fail
    refine (HA.out w1).mono ?_
    rintro e w2 ⟨rfl, hb2⟩
    have z2 := hb2.size
    have HB2 : Hid (Below w.heap.size w w2) := Lib.hid (HB1.out.trans (hb2.mono (by omega)))
    have B2 := Lib.hid (B1.out.below hb2 (by omega))
    clear hb2 p0 p1 p2 B1 HB1
    obtain ⟨p0, p1, p2⟩ := B2.out.cells3
    cases b2
    · go_wp2
      go_ret
      exact ⟨rfl, HB2.out⟩
    go_wp2_with fail
    refine (HT.out w2).mono ?_
    rintro e w3 ⟨rfl, hb3⟩
    have HB3 : Hid (Below w.heap.size w w3) := Lib.hid (HB2.out.trans (hb3.mono (by omega)))
    go_wp2
    go_ret
    exact ⟨rfl, HB3.out⟩
  · have k1 : isOp op = false := decide_eq_false h1
    have en := opTxt_out 2 h1
    rw [HP.out, k1]
    rw [en] at HN
    clear h1 k1 en
    go_enter Tryd.func38, Tryd.ntmps38
    go_wp2_with fail
    refine (HN.out _ (HB0.out _)).mono ?_
    rintro e w1 ⟨rfl, hb1⟩
    have HB1 : Hid (Below w.heap.size w w1) := Lib.hid ((HB0.out _).trans (hb1.mono (by simp)))
    clear hb1
    go_wp2
    go_ret
    exact ⟨rfl, HB1.out⟩
set_option maxRecDepth 100000 in
set_option maxHeartbeats 1600000 in
theorem holdOkR_any (op : Int) (acct trace hold : ByteArray) (w : World) (hO : opsIn w) (hs1 : acct.size ≤ maxLen) (hs3 : hold.size ≤ maxLen) (hs4 : trace.size ≤ maxLen) :
    Calls Tryd.prog 48 #[.agg #[.int .i64 op, .string acct, .string trace, .string hold]] w fun e w' => e = .returned (.bool (plainB op acct trace && idOk hold)) ∧ Below w.heap.size w w' := by
  have HP := Lib.hid (fun V (hV : Below w.heap.size w V) => plainOk_any op acct trace V (hO.below hV) hs1 hs4)
  have HI := Lib.hid (fun V => implHoldIdOk_any hold V hs3)
  generalize plainB op acct trace = b1 at HP ⊢
  generalize idOk hold = b2 at HI ⊢
  have HB0 : Hid (∀ o, Below w.heap.size w (w.alloc o)) := Lib.hid fun o => (Below.refl _ _).alloc (Nat.le_refl _) o
  clear hO hs1 hs4 hs3
  go_enter Tryd.func48, Tryd.ntmps48
  go_upto_region 1 with fail
  obtain ⟨W, hW⟩ : ∃ W, W = w.alloc (.cells #[.int .i64 op, .string acct, .string trace, .string hold] 43) := ⟨_, rfl⟩
  have b0 : bk W w.heap.size 43 [.int .i64 op, .string acct, .string trace, .string hold] := by rw [hW]; exact bk.new w _ _
  have HB : Hid (Below w.heap.size w W) := Lib.hid (by rw [hW]; exact HB0.out _)
  have z0 := b0.lt
  rw [← hW]
  clear hW
  have B0 := Lib.hid b0
  have p0 := b0.cell 0
  have p1 := b0.cell 1
  have p2 := b0.cell 2
  have p3 := b0.cell 3
  clear b0
  go_wp2_with fail
  refine (HP.out W HB.out).mono ?_
  rintro e w1 ⟨rfl, hb1⟩
  have z1 := hb1.size
  have HB1 : Hid (Below w.heap.size w w1) := Lib.hid (HB.out.trans (hb1.mono (by omega)))
  have B1 := Lib.hid (B0.out.below hb1 z0)
  clear hb1 p0 p1 p2 p3 B0 HB
  have p3 := B1.out.cell 3
  cases b1
  · go_wp2
    go_ret
    exact ⟨rfl, HB1.out⟩
  go_wp2_with fail
  refine (HI.out w1).mono ?_
  rintro e w2 ⟨rfl, hb2⟩
  have HB2 : Hid (Below w.heap.size w w2) := Lib.hid (HB1.out.trans (hb2.mono (by omega)))
  go_wp2
  go_ret
  exact ⟨rfl, HB2.out⟩
end Go.Proofs.YtmojpiofdfmdgabDoor
set_option linter.unusedVariables false
set_option linter.unusedSimpArgs false
namespace Go.Proofs.YtmojpiofdfmdgabDoor
open Go.ChangeShapes Go.WideShapes Go.ChangeAt Go.RowKit

set_option maxRecDepth 100000 in
set_option maxHeartbeats 1600000 in
theorem amtOkR_any (op : Int) (acct trace hold : ByteArray) (amount : Int) (w : World) (hO : opsIn w) (hs1 : acct.size ≤ maxLen) (hs3 : hold.size ≤ maxLen) (hs4 : trace.size ≤ maxLen) :
    Calls Tryd.prog 51 #[.agg #[.int .i64 op, .string acct, .string trace, .string hold, .int .i64 amount]] w fun e w' => e = .returned (.bool ((plainB op acct trace && idOk hold) && decide (0 ≤ amount ∧ amount ≤ 999999999999))) ∧ Below w.heap.size w w' := by
  have HP := Lib.hid (fun V (hV : Below w.heap.size w V) => holdOkR_any op acct trace hold V (hO.below hV) hs1 hs3 hs4)
  generalize (plainB op acct trace && idOk hold) = b1 at HP ⊢
  clear hO hs1 hs4 hs3
  have HB0 : Hid (∀ o, Below w.heap.size w (w.alloc o)) := Lib.hid fun o => (Below.refl _ _).alloc (Nat.le_refl _) o
  go_enter Tryd.func51, Tryd.ntmps51
  go_upto_region 1 with fail
  obtain ⟨W, hW⟩ : ∃ W, W = w.alloc (.cells #[.int .i64 op, .string acct, .string trace, .string hold, .int .i64 amount] 45) := ⟨_, rfl⟩
  have b0 : bk W w.heap.size 45 [.int .i64 op, .string acct, .string trace, .string hold, .int .i64 amount] := by rw [hW]; exact bk.new w _ _
  have HB : Hid (Below w.heap.size w W) := Lib.hid (by rw [hW]; exact HB0.out _)
  have z0 := b0.lt
  rw [← hW]
  clear hW
  have B0 := Lib.hid b0
  have p0 := b0.cell 0
  have p1 := b0.cell 1
  have p2 := b0.cell 2
  have p3 := b0.cell 3
  have p4 := b0.cell 4
  clear b0
  go_wp2_with fail
  refine (HP.out W HB.out).mono ?_
  rintro e w1 ⟨rfl, hb1⟩
  have z1 := hb1.size
  have HB1 : Hid (Below w.heap.size w w1) := Lib.hid (HB.out.trans (hb1.mono (by omega)))
  have B1 := Lib.hid (B0.out.below hb1 z0)
  clear hb1 p0 p1 p2 p3 p4 B0 HB
  have pz := B1.out.cell 4
  cases b1
  · go_wp2
    go_ret
    exact ⟨rfl, HB1.out⟩
  by_cases e1 : 0 ≤ amount
  · by_cases e2 : amount ≤ 999999999999
    all_goals
      go_wp2
      go_ret
      exact ⟨by first | (simp [e1, e2]; done) | (simp [e1]; omega), HB1.out⟩
  · go_wp2
    go_ret
    exact ⟨by simp; omega, HB1.out⟩

set_option maxRecDepth 100000 in
set_option maxHeartbeats 1600000 in
theorem authOkR_any (op : Int) (acct trace hold : ByteArray) (amount : Int) (ttl : Int) (w : World) (hO : opsIn w) (hs1 : acct.size ≤ maxLen) (hs3 : hold.size ≤ maxLen) (hs4 : trace.size ≤ maxLen) :
    Calls Tryd.prog 53 #[.agg #[.int .i64 op, .string acct, .string trace, .string hold, .int .i64 amount, .int .i64 ttl]] w fun e w' => e = .returned (.bool (((plainB op acct trace && idOk hold) && decide (0 ≤ amount ∧ amount ≤ 999999999999)) && decide (0 ≤ ttl ∧ ttl ≤ 9999))) ∧ Below w.heap.size w w' := by
  have HP := Lib.hid (fun V (hV : Below w.heap.size w V) => amtOkR_any op acct trace hold amount V (hO.below hV) hs1 hs3 hs4)
  generalize ((plainB op acct trace && idOk hold) && decide (0 ≤ amount ∧ amount ≤ 999999999999)) = b1 at HP ⊢
  clear hO hs1 hs4 hs3
  have HB0 : Hid (∀ o, Below w.heap.size w (w.alloc o)) := Lib.hid fun o => (Below.refl _ _).alloc (Nat.le_refl _) o
  go_enter Tryd.func53, Tryd.ntmps53
  go_upto_region 1 with fail
  obtain ⟨W, hW⟩ : ∃ W, W = w.alloc (.cells #[.int .i64 op, .string acct, .string trace, .string hold, .int .i64 amount, .int .i64 ttl] 47) := ⟨_, rfl⟩
  have b0 : bk W w.heap.size 47 [.int .i64 op, .string acct, .string trace, .string hold, .int .i64 amount, .int .i64 ttl] := by rw [hW]; exact bk.new w _ _
  have HB : Hid (Below w.heap.size w W) := Lib.hid (by rw [hW]; exact HB0.out _)
  have z0 := b0.lt
  rw [← hW]
  clear hW
  have B0 := Lib.hid b0
  have p0 := b0.cell 0
  have p1 := b0.cell 1
  have p2 := b0.cell 2
  have p3 := b0.cell 3
  have p4 := b0.cell 4
  have p5 := b0.cell 5
  clear b0
  go_wp2_with fail
  refine (HP.out W HB.out).mono ?_
  rintro e w1 ⟨rfl, hb1⟩
  have z1 := hb1.size
  have HB1 : Hid (Below w.heap.size w w1) := Lib.hid (HB.out.trans (hb1.mono (by omega)))
  have B1 := Lib.hid (B0.out.below hb1 z0)
  clear hb1 p0 p1 p2 p3 p4 p5 B0 HB
  have pz := B1.out.cell 5
  cases b1
  · go_wp2
    go_ret
    exact ⟨rfl, HB1.out⟩
  by_cases e1 : 0 ≤ ttl
  · by_cases e2 : ttl ≤ 9999
    all_goals
      go_wp2
      go_ret
      exact ⟨by first | (simp [e1, e2]; done) | (simp [e1]; omega), HB1.out⟩
  · go_wp2
    go_ret
    exact ⟨by simp; omega, HB1.out⟩

set_option maxRecDepth 100000 in
set_option maxHeartbeats 1600000 in
theorem moveOkR_any (op : Int) (acct trace hold other : ByteArray) (w : World) (hO : opsIn w) (hs1 : acct.size ≤ maxLen) (hs3 : hold.size ≤ maxLen) (hs4 : trace.size ≤ maxLen) (hs2 : other.size ≤ maxLen) :
    Calls Tryd.prog 55 #[.agg #[.int .i64 op, .string acct, .string trace, .string hold, .string other]] w fun e w' => e = .returned (.bool ((plainB op acct trace && idOk hold) && acctIdB other)) ∧ Below w.heap.size w w' := by
  have HP := Lib.hid (fun V (hV : Below w.heap.size w V) => holdOkR_any op acct trace hold V (hO.below hV) hs1 hs3 hs4)
  have HI := Lib.hid (fun V => implAcctIdOk_any other V hs2)
  generalize (plainB op acct trace && idOk hold) = b1 at HP ⊢
  generalize acctIdB other = b2 at HI ⊢
  clear hO hs1 hs4 hs3 hs2
  have HB0 : Hid (∀ o, Below w.heap.size w (w.alloc o)) := Lib.hid fun o => (Below.refl _ _).alloc (Nat.le_refl _) o
  go_enter Tryd.func55, Tryd.ntmps55
  go_upto_region 1 with fail
  obtain ⟨W, hW⟩ : ∃ W, W = w.alloc (.cells #[.int .i64 op, .string acct, .string trace, .string hold, .string other] 49) := ⟨_, rfl⟩
  have b0 : bk W w.heap.size 49 [.int .i64 op, .string acct, .string trace, .string hold, .string other] := by rw [hW]; exact bk.new w _ _
  have HB : Hid (Below w.heap.size w W) := Lib.hid (by rw [hW]; exact HB0.out _)
  have z0 := b0.lt
  rw [← hW]
  clear hW
  have B0 := Lib.hid b0
  have p0 := b0.cell 0
  have p1 := b0.cell 1
  have p2 := b0.cell 2
  have p3 := b0.cell 3
  have p4 := b0.cell 4
  clear b0
  go_wp2_with fail
  refine (HP.out W HB.out).mono ?_
  rintro e w1 ⟨rfl, hb1⟩
  have z1 := hb1.size
  have HB1 : Hid (Below w.heap.size w w1) := Lib.hid (HB.out.trans (hb1.mono (by omega)))
  have B1 := Lib.hid (B0.out.below hb1 z0)
  clear hb1 p0 p1 p2 p3 p4 B0 HB
  have pz := B1.out.cell 4
  cases b1
  · go_wp2
    go_ret
    exact ⟨rfl, HB1.out⟩
  go_wp2_with fail
  refine (HI.out w1).mono ?_
  rintro e w2 ⟨rfl, hb2⟩
  have HB2 : Hid (Below w.heap.size w w2) := Lib.hid (HB1.out.trans (hb2.mono (by omega)))
  go_wp2
  go_ret
  exact ⟨rfl, HB2.out⟩
end Go.Proofs.YtmojpiofdfmdgabDoor
set_option linter.unusedVariables false
namespace Go.Proofs.YtmojpiofdfmdgabDoor
open Go.ChangeShapes Go.WideShapes Go.ChangeAt Go.RowKit

set_option maxRecDepth 100000 in
theorem bk.under {w w' : World} {lo hi g : Nat} {t : TypeId} {cs : List Value} (h : bk w g t cs) (ht : Turned lo hi w w') (hg : g < lo ∨ hi ≤ g) : bk w' g t cs := (ht.block g h.lt (by omega)).trans h
end Go.Proofs.YtmojpiofdfmdgabDoor
set_option linter.unusedVariables false
namespace Go.Proofs.YtmojpiofdfmdgabDoor
open Go.ChangeShapes Go.WideShapes Go.ChangeAt Go.RowKit

set_option maxRecDepth 100000 in
theorem sizeReq : (Tryd.prog.info? 26).map (·.size) = some 8 := by kernel_rfl
set_option maxRecDepth 100000 in
theorem there8 {V : World} {b : Nat} {o0 o1 o2 o3 o4 o5 o6 o7 : Value} (h : bk V b 26 [o0, o1, o2, o3, o4, o5, o6, o7]) : V.there b 0 8 := by
  obtain ⟨⟨c0, c1, c2, c3, c4, c5, c6, c7⟩, f⟩ := h.eight
  intro j hj
  rw [Nat.zero_add]
  refine ⟨?_, f j⟩
  have h8 : j = 0 ∨ j = 1 ∨ j = 2 ∨ j = 3 ∨ j = 4 ∨ j = 5 ∨ j = 6 ∨ j = 7 := by omega
  rcases h8 with rfl | rfl | rfl | rfl | rfl | rfl | rfl | rfl
  · rw [c0]; rfl
  · rw [c1]; rfl
  · rw [c2]; rfl
  · rw [c3]; rfl
  · rw [c4]; rfl
  · rw [c5]; rfl
  · rw [c6]; rfl
  · rw [c7]; rfl
set_option maxRecDepth 100000 in
theorem set8_bk {V : World} {b : Nat} {o0 o1 o2 o3 o4 o5 o6 o7 : Value} (h : bk V b 26 [o0, o1, o2, o3, o4, o5, o6, o7]) (a0 a1 a2 a3 a4 a5 a6 a7 : Value) : bk (V.setCells b 0 [a0, a1, a2, a3, a4, a5, a6, a7]) b 26 [a0, a1, a2, a3, a4, a5, a6, a7] := ((((((((h.set 0 a0).set 1 a1).set 2 a2).set 3 a3).set 4 a4).set 5 a5).set 6 a6).set 7 a7)
set_option maxRecDepth 100000 in
theorem set8_turned (V : World) (b : Nat) (a0 a1 a2 a3 a4 a5 a6 a7 : Value) : Turned b (b + 1) V (V.setCells b 0 [a0, a1, a2, a3, a4, a5, a6, a7]) := (((((((((Turned.refl b (b + 1) V).set (b := b) 0 a0 (Nat.le_refl _) (Nat.lt_succ_self _)).set (b := b) 1 a1 (Nat.le_refl _) (Nat.lt_succ_self _)).set (b := b) 2 a2 (Nat.le_refl _) (Nat.lt_succ_self _)).set (b := b) 3 a3 (Nat.le_refl _) (Nat.lt_succ_self _)).set (b := b) 4 a4 (Nat.le_refl _) (Nat.lt_succ_self _)).set (b := b) 5 a5 (Nat.le_refl _) (Nat.lt_succ_self _)).set (b := b) 6 a6 (Nat.le_refl _) (Nat.lt_succ_self _)).set (b := b) 7 a7 (Nat.le_refl _) (Nat.lt_succ_self _))
set_option maxRecDepth 100000 in
theorem one8 (a b c d e : ByteArray) (x y z : Int) : #[Value.int .i64 x, .string a, .string b, .string c, .string d, .string e, .int .i64 y, .int .i64 z].all (·.oneCell') = true := by
  simp
  exact ⟨rfl, rfl, rfl, rfl, rfl, rfl, rfl, rfl⟩
set_option maxRecDepth 100000 in
theorem load8r {V : World} {b : Nat} {cs : List Value} (h : bk V b 26 cs) : V.rangeAt b 0 cs := fun j v hv => by rw [Nat.zero_add, h.cell j]; exact hv
end Go.Proofs.YtmojpiofdfmdgabDoor
set_option linter.unusedVariables false
namespace Go.Proofs.YtmojpiofdfmdgabDoor
open Go.ChangeShapes Go.WideShapes Go.ChangeAt Go.RowKit

set_option maxRecDepth 100000 in
theorem as_plain_plain (op : Int) (acct trace : ByteArray) (w : World) : (Instr.typeAssert (.iface 41 (.agg #[.int .i64 op, .string acct, .string trace])) 34 41 true).run Tryd.prog w = .ok (.tuple #[.agg #[.int .i64 op, .string acct, .string trace], .bool true]) w := by kernel_rfl
set_option maxRecDepth 100000 in
theorem as_free_plain (op : Int) (acct trace hold : ByteArray) (w : World) : (Instr.typeAssert (.iface 43 (.agg #[.int .i64 op, .string acct, .string trace, .string hold])) 34 41 true).run Tryd.prog w = .ok (.tuple #[.agg #[.int .i64 0, .string ⟨#[]⟩, .string ⟨#[]⟩], .bool false]) w := by kernel_rfl
set_option maxRecDepth 100000 in
theorem as_free_free (op : Int) (acct trace hold : ByteArray) (w : World) : (Instr.typeAssert (.iface 43 (.agg #[.int .i64 op, .string acct, .string trace, .string hold])) 34 43 true).run Tryd.prog w = .ok (.tuple #[.agg #[.int .i64 op, .string acct, .string trace, .string hold], .bool true]) w := by kernel_rfl
set_option maxRecDepth 100000 in
theorem as_amt_plain (op : Int) (acct trace hold : ByteArray) (amount : Int) (w : World) : (Instr.typeAssert (.iface 45 (.agg #[.int .i64 op, .string acct, .string trace, .string hold, .int .i64 amount])) 34 41 true).run Tryd.prog w = .ok (.tuple #[.agg #[.int .i64 0, .string ⟨#[]⟩, .string ⟨#[]⟩], .bool false]) w := by kernel_rfl
set_option maxRecDepth 100000 in
theorem as_amt_free (op : Int) (acct trace hold : ByteArray) (amount : Int) (w : World) : (Instr.typeAssert (.iface 45 (.agg #[.int .i64 op, .string acct, .string trace, .string hold, .int .i64 amount])) 34 43 true).run Tryd.prog w = .ok (.tuple #[.agg #[.int .i64 0, .string ⟨#[]⟩, .string ⟨#[]⟩, .string ⟨#[]⟩], .bool false]) w := by kernel_rfl
set_option maxRecDepth 100000 in
theorem as_amt_amt (op : Int) (acct trace hold : ByteArray) (amount : Int) (w : World) : (Instr.typeAssert (.iface 45 (.agg #[.int .i64 op, .string acct, .string trace, .string hold, .int .i64 amount])) 34 45 true).run Tryd.prog w = .ok (.tuple #[.agg #[.int .i64 op, .string acct, .string trace, .string hold, .int .i64 amount], .bool true]) w := by kernel_rfl
set_option maxRecDepth 100000 in
theorem as_auth_plain (op : Int) (acct trace hold : ByteArray) (amount : Int) (ttl : Int) (w : World) : (Instr.typeAssert (.iface 47 (.agg #[.int .i64 op, .string acct, .string trace, .string hold, .int .i64 amount, .int .i64 ttl])) 34 41 true).run Tryd.prog w = .ok (.tuple #[.agg #[.int .i64 0, .string ⟨#[]⟩, .string ⟨#[]⟩], .bool false]) w := by kernel_rfl
set_option maxRecDepth 100000 in
theorem as_auth_free (op : Int) (acct trace hold : ByteArray) (amount : Int) (ttl : Int) (w : World) : (Instr.typeAssert (.iface 47 (.agg #[.int .i64 op, .string acct, .string trace, .string hold, .int .i64 amount, .int .i64 ttl])) 34 43 true).run Tryd.prog w = .ok (.tuple #[.agg #[.int .i64 0, .string ⟨#[]⟩, .string ⟨#[]⟩, .string ⟨#[]⟩], .bool false]) w := by kernel_rfl
set_option maxRecDepth 100000 in
theorem as_auth_amt (op : Int) (acct trace hold : ByteArray) (amount : Int) (ttl : Int) (w : World) : (Instr.typeAssert (.iface 47 (.agg #[.int .i64 op, .string acct, .string trace, .string hold, .int .i64 amount, .int .i64 ttl])) 34 45 true).run Tryd.prog w = .ok (.tuple #[.agg #[.int .i64 0, .string ⟨#[]⟩, .string ⟨#[]⟩, .string ⟨#[]⟩, .int .i64 0], .bool false]) w := by kernel_rfl
set_option maxRecDepth 100000 in
theorem as_auth_auth (op : Int) (acct trace hold : ByteArray) (amount : Int) (ttl : Int) (w : World) : (Instr.typeAssert (.iface 47 (.agg #[.int .i64 op, .string acct, .string trace, .string hold, .int .i64 amount, .int .i64 ttl])) 34 47 true).run Tryd.prog w = .ok (.tuple #[.agg #[.int .i64 op, .string acct, .string trace, .string hold, .int .i64 amount, .int .i64 ttl], .bool true]) w := by kernel_rfl
set_option maxRecDepth 100000 in
theorem as_move_plain (op : Int) (acct trace hold other : ByteArray) (w : World) : (Instr.typeAssert (.iface 49 (.agg #[.int .i64 op, .string acct, .string trace, .string hold, .string other])) 34 41 true).run Tryd.prog w = .ok (.tuple #[.agg #[.int .i64 0, .string ⟨#[]⟩, .string ⟨#[]⟩], .bool false]) w := by kernel_rfl
set_option maxRecDepth 100000 in
theorem as_move_free (op : Int) (acct trace hold other : ByteArray) (w : World) : (Instr.typeAssert (.iface 49 (.agg #[.int .i64 op, .string acct, .string trace, .string hold, .string other])) 34 43 true).run Tryd.prog w = .ok (.tuple #[.agg #[.int .i64 0, .string ⟨#[]⟩, .string ⟨#[]⟩, .string ⟨#[]⟩], .bool false]) w := by kernel_rfl
set_option maxRecDepth 100000 in
theorem as_move_amt (op : Int) (acct trace hold other : ByteArray) (w : World) : (Instr.typeAssert (.iface 49 (.agg #[.int .i64 op, .string acct, .string trace, .string hold, .string other])) 34 45 true).run Tryd.prog w = .ok (.tuple #[.agg #[.int .i64 0, .string ⟨#[]⟩, .string ⟨#[]⟩, .string ⟨#[]⟩, .int .i64 0], .bool false]) w := by kernel_rfl
set_option maxRecDepth 100000 in
theorem as_move_auth (op : Int) (acct trace hold other : ByteArray) (w : World) : (Instr.typeAssert (.iface 49 (.agg #[.int .i64 op, .string acct, .string trace, .string hold, .string other])) 34 47 true).run Tryd.prog w = .ok (.tuple #[.agg #[.int .i64 0, .string ⟨#[]⟩, .string ⟨#[]⟩, .string ⟨#[]⟩, .int .i64 0, .int .i64 0], .bool false]) w := by kernel_rfl
set_option maxRecDepth 100000 in
theorem as_move_move (op : Int) (acct trace hold other : ByteArray) (w : World) : (Instr.typeAssert (.iface 49 (.agg #[.int .i64 op, .string acct, .string trace, .string hold, .string other])) 34 49 true).run Tryd.prog w = .ok (.tuple #[.agg #[.int .i64 op, .string acct, .string trace, .string hold, .string other], .bool true]) w := by kernel_rfl
set_option maxRecDepth 100000 in
set_option maxHeartbeats 1000000 in
theorem reqOf_plain (op : Int) (acct trace : ByteArray) (w : World) (hO : opsIn w) :
    Calls Tryd.prog 17 #[.iface 41 (.agg #[.int .i64 op, .string acct, .string trace])] w fun e w' => e = .returned (.agg #[.int .i64 op, .string acct, .string ⟨#[]⟩, .string ⟨#[]⟩, .string trace, .string (opTxt 0 op), .int .i64 0, .int .i64 0]) ∧ Below w.heap.size w w' := by
  have haplain := as_plain_plain op acct trace
  have HM := Lib.hid (fun V (hV : Below w.heap.size w V) => implOpMti_any op V (hO.below hV))
  generalize opTxt 0 op = om at HM ⊢
  clear hO
  go_enter Tryd.func17, Tryd.ntmps17
  go_upto_region 5 with fail
  obtain ⟨W, hW⟩ : ∃ W, W = ((w.alloc (.cells #[.int .i64 0, .string ⟨#[]⟩, .string ⟨#[]⟩, .string ⟨#[]⟩, .string ⟨#[]⟩, .string ⟨#[]⟩, .int .i64 0, .int .i64 0] 26)).alloc (.cells #[.int .i64 0, .string ⟨#[]⟩, .string ⟨#[]⟩, .string ⟨#[]⟩, .string ⟨#[]⟩, .string ⟨#[]⟩, .int .i64 0, .int .i64 0] 26)).alloc (.cells #[.int .i64 op, .string acct, .string trace] 41) := ⟨_, rfl⟩
  have b0 : bk W w.heap.size 26 [.int .i64 0, .string ⟨#[]⟩, .string ⟨#[]⟩, .string ⟨#[]⟩, .string ⟨#[]⟩, .string ⟨#[]⟩, .int .i64 0, .int .i64 0] := by rw [hW]; have h0 := bk.new w 26 [.int .i64 0, .string ⟨#[]⟩, .string ⟨#[]⟩, .string ⟨#[]⟩, .string ⟨#[]⟩, .string ⟨#[]⟩, .int .i64 0, .int .i64 0]; simpa using (h0.alloc _).alloc _
  have b1 : bk W (w.heap.size + 1) 26 [.int .i64 0, .string ⟨#[]⟩, .string ⟨#[]⟩, .string ⟨#[]⟩, .string ⟨#[]⟩, .string ⟨#[]⟩, .int .i64 0, .int .i64 0] := by rw [hW]; have h0 := bk.new (w.alloc (.cells #[.int .i64 0, .string ⟨#[]⟩, .string ⟨#[]⟩, .string ⟨#[]⟩, .string ⟨#[]⟩, .string ⟨#[]⟩, .int .i64 0, .int .i64 0] 26)) 26 [.int .i64 0, .string ⟨#[]⟩, .string ⟨#[]⟩, .string ⟨#[]⟩, .string ⟨#[]⟩, .string ⟨#[]⟩, .int .i64 0, .int .i64 0]; simpa using h0.alloc _
  have b2 : bk W (w.heap.size + 1 + 1) 41 [.int .i64 op, .string acct, .string trace] := by rw [hW]; have h0 := bk.new ((w.alloc (.cells #[.int .i64 0, .string ⟨#[]⟩, .string ⟨#[]⟩, .string ⟨#[]⟩, .string ⟨#[]⟩, .string ⟨#[]⟩, .int .i64 0, .int .i64 0] 26)).alloc (.cells #[.int .i64 0, .string ⟨#[]⟩, .string ⟨#[]⟩, .string ⟨#[]⟩, .string ⟨#[]⟩, .string ⟨#[]⟩, .int .i64 0, .int .i64 0] 26)) 41 [.int .i64 op, .string acct, .string trace]; simpa using h0
  have HBW : Hid (Below w.heap.size w W) := Lib.hid (by rw [hW]; exact (((Below.refl _ _).alloc (Nat.le_refl _) _).alloc (by simp) _).alloc (by simp; omega) _)
  have z0 : w.heap.size + 3 ≤ W.heap.size := by rw [hW]; simp
  rw [← hW]
  clear hW haplain
  have B0 := Lib.hid b0
  have B1 := Lib.hid b1
  have B2 := Lib.hid b2
  clear b0 b1 b2
  have p0 := B2.out.cell 0
  have p1 := B2.out.cell 1
  have p2 := B2.out.cell 2
  go_region_held3 (fun V => V.cell? ⟨w.heap.size + 1 + 1, 0, none⟩ = some (.int .i64 op) ∧ V.cell? ⟨w.heap.size + 1 + 1, 1, none⟩ = some (.string acct) ∧ V.cell? ⟨w.heap.size + 1 + 1, 2, none⟩ = some (.string trace)) (go_keep) ((go_at_call 20; refine (HM.out _ (by first | exact HBW.out | exact HBW.out.drew)).mono ?_; rintro e w1 ⟨rfl, hb⟩; have z1 : W.heap.size ≤ w1.heap.size := hb.size; have HB1 : Hid (Below w.heap.size w w1) := Lib.hid (Below.trans HBW.out.drew (hb.mono (by first | omega | (show _ < W.heap.size; omega) | (show _ ≤ W.heap.size; omega)))); have c2 := B2.out.drew.below hb (by first | omega | (show _ < W.heap.size; omega) | (show _ ≤ W.heap.size; omega)); have C0 := Lib.hid (B0.out.drew.below hb (by first | omega | (show _ < W.heap.size; omega) | (show _ ≤ W.heap.size; omega))); have C1 := Lib.hid (B1.out.drew.below hb (by first | omega | (show _ < W.heap.size; omega) | (show _ ≤ W.heap.size; omega))); obtain ⟨⟨e0, e1, e2, e3, e4, e5, e6, e7⟩, ef⟩ := C1.out.eight; have q0 := c2.cell 0; have q1 := c2.cell 1; have q2 := c2.cell 2; clear hb c2 p0 p1 p2 B0 B1 B2))
  obtain ⟨V1, hV⟩ : ∃ V, V = ((((((((w1.setCell ⟨w.heap.size + 1, 0, none⟩ (.int .i64 op)).setCell ⟨w.heap.size + 1, 1, none⟩ (.string acct)).setCell ⟨w.heap.size + 1, 2, none⟩ (.string ⟨#[]⟩)).setCell ⟨w.heap.size + 1, 3, none⟩ (.string ⟨#[]⟩)).setCell ⟨w.heap.size + 1, 4, none⟩ (.string trace)).setCell ⟨w.heap.size + 1, 5, none⟩ (.string (om))).setCell ⟨w.heap.size + 1, 6, none⟩ (.int .i64 0)).setCell ⟨w.heap.size + 1, 7, none⟩ (.int .i64 0)) := ⟨_, rfl⟩
  have bV : bk V1 (w.heap.size + 1) 26 [.int .i64 op, .string acct, .string ⟨#[]⟩, .string ⟨#[]⟩, .string trace, .string (om), .int .i64 0, .int .i64 0] := by rw [hV]; exact set8_bk C1.out (.int .i64 op) (.string acct) (.string ⟨#[]⟩) (.string ⟨#[]⟩) (.string trace) (.string (om)) (.int .i64 0) (.int .i64 0)
  have tV : Turned (w.heap.size + 1) (w.heap.size + 1 + 1) w1 V1 := by rw [hV]; exact set8_turned w1 (w.heap.size + 1) (.int .i64 op) (.string acct) (.string ⟨#[]⟩) (.string ⟨#[]⟩) (.string trace) (.string (om)) (.int .i64 0) (.int .i64 0)
  rw [← hV]
  clear hV q0 q1 q2 e0 e1 e2 e3 e4 e5 e6 e7 ef C1
  have z2 := tV.size
  have HB2 : Hid (Below w.heap.size w V1) := Lib.hid (HB1.out.trans (tV.below (B := w.heap.size) (by omega) (by omega)))
  have C2 := Lib.hid (C0.out.under tV (by omega))
  have HT2 := Lib.hid (there8 C2.out)
  clear tV C0 HB1
  have HLD := Lib.hid (load8r bV)
  clear bV
  go_wp2_with (first | (refine wpList_load_mid rfl 26 _ rfl (w.heap.size + 1) 0 rfl [.int .i64 op, .string acct, .string ⟨#[]⟩, .string ⟨#[]⟩, .string trace, .string (om), .int .i64 0, .int .i64 0] _ HLD.out Tryd.underlying26 rfl sizeReq ?_) | (refine wpList_store_mid rfl 26 _ _ rfl w.heap.size 0 #[.int .i64 op, .string acct, .string ⟨#[]⟩, .string ⟨#[]⟩, .string trace, .string (om), .int .i64 0, .int .i64 0] rfl rfl HT2.out sizeReq (one8 ..) ?_; generalize hV2 : World.setCells _ _ _ _ = V2))
  have bV2 : bk V2 w.heap.size 26 [.int .i64 op, .string acct, .string ⟨#[]⟩, .string ⟨#[]⟩, .string trace, .string (om), .int .i64 0, .int .i64 0] := by rw [← hV2]; exact set8_bk C2.out (.int .i64 op) (.string acct) (.string ⟨#[]⟩) (.string ⟨#[]⟩) (.string trace) (.string (om)) (.int .i64 0) (.int .i64 0)
  have tV2 : Turned w.heap.size (w.heap.size + 1) V1 V2 := by rw [← hV2]; exact set8_turned V1 w.heap.size (.int .i64 op) (.string acct) (.string ⟨#[]⟩) (.string ⟨#[]⟩) (.string trace) (.string (om)) (.int .i64 0) (.int .i64 0)
  have HB3 : Hid (Below w.heap.size w V2) := Lib.hid (HB2.out.trans (tV2.below (B := w.heap.size) (by omega) (by omega)))
  obtain ⟨⟨f0, f1, f2, f3, f4, f5, f6, f7⟩, -⟩ := bV2.eight
  exact bodyPost_ret (v := .agg #[.int .i64 op, .string acct, .string ⟨#[]⟩, .string ⟨#[]⟩, .string trace, .string (om), .int .i64 0, .int .i64 0]) (by simp [results, Tryd.results17, go_sem, f0, f1, f2, f3, f4, f5, f6, f7]) rfl ⟨rfl, HB3.out⟩
set_option maxRecDepth 100000 in
set_option maxHeartbeats 1000000 in
theorem reqOf_free (op : Int) (acct trace hold : ByteArray) (w : World) (hO : opsIn w) :
    Calls Tryd.prog 17 #[.iface 43 (.agg #[.int .i64 op, .string acct, .string trace, .string hold])] w fun e w' => e = .returned (.agg #[.int .i64 op, .string acct, .string ⟨#[]⟩, .string hold, .string trace, .string (opTxt 0 op), .int .i64 0, .int .i64 0]) ∧ Below w.heap.size w w' := by
  have haplain := as_free_plain op acct trace hold
  have hafree := as_free_free op acct trace hold
  have HM := Lib.hid (fun V (hV : Below w.heap.size w V) => reqOf_plain op acct trace V (hO.below hV))
  generalize opTxt 0 op = om at HM ⊢
  clear hO
  go_enter Tryd.func17, Tryd.ntmps17
  go_upto_region 8 with fail
  obtain ⟨W, hW⟩ : ∃ W, W = ((w.alloc (.cells #[.int .i64 0, .string ⟨#[]⟩, .string ⟨#[]⟩, .string ⟨#[]⟩, .string ⟨#[]⟩, .string ⟨#[]⟩, .int .i64 0, .int .i64 0] 26)).alloc (.cells #[.int .i64 0, .string ⟨#[]⟩, .string ⟨#[]⟩, .string ⟨#[]⟩, .string ⟨#[]⟩, .string ⟨#[]⟩, .int .i64 0, .int .i64 0] 26)).alloc (.cells #[.int .i64 op, .string acct, .string trace, .string hold] 43) := ⟨_, rfl⟩
  have b0 : bk W w.heap.size 26 [.int .i64 0, .string ⟨#[]⟩, .string ⟨#[]⟩, .string ⟨#[]⟩, .string ⟨#[]⟩, .string ⟨#[]⟩, .int .i64 0, .int .i64 0] := by rw [hW]; have h0 := bk.new w 26 [.int .i64 0, .string ⟨#[]⟩, .string ⟨#[]⟩, .string ⟨#[]⟩, .string ⟨#[]⟩, .string ⟨#[]⟩, .int .i64 0, .int .i64 0]; simpa using (h0.alloc _).alloc _
  have b1 : bk W (w.heap.size + 1) 26 [.int .i64 0, .string ⟨#[]⟩, .string ⟨#[]⟩, .string ⟨#[]⟩, .string ⟨#[]⟩, .string ⟨#[]⟩, .int .i64 0, .int .i64 0] := by rw [hW]; have h0 := bk.new (w.alloc (.cells #[.int .i64 0, .string ⟨#[]⟩, .string ⟨#[]⟩, .string ⟨#[]⟩, .string ⟨#[]⟩, .string ⟨#[]⟩, .int .i64 0, .int .i64 0] 26)) 26 [.int .i64 0, .string ⟨#[]⟩, .string ⟨#[]⟩, .string ⟨#[]⟩, .string ⟨#[]⟩, .string ⟨#[]⟩, .int .i64 0, .int .i64 0]; simpa using h0.alloc _
  have b2 : bk W (w.heap.size + 1 + 1) 43 [.int .i64 op, .string acct, .string trace, .string hold] := by rw [hW]; have h0 := bk.new ((w.alloc (.cells #[.int .i64 0, .string ⟨#[]⟩, .string ⟨#[]⟩, .string ⟨#[]⟩, .string ⟨#[]⟩, .string ⟨#[]⟩, .int .i64 0, .int .i64 0] 26)).alloc (.cells #[.int .i64 0, .string ⟨#[]⟩, .string ⟨#[]⟩, .string ⟨#[]⟩, .string ⟨#[]⟩, .string ⟨#[]⟩, .int .i64 0, .int .i64 0] 26)) 43 [.int .i64 op, .string acct, .string trace, .string hold]; simpa using h0
  have HBW : Hid (Below w.heap.size w W) := Lib.hid (by rw [hW]; exact (((Below.refl _ _).alloc (Nat.le_refl _) _).alloc (by simp) _).alloc (by simp; omega) _)
  have z0 : w.heap.size + 3 ≤ W.heap.size := by rw [hW]; simp
  rw [← hW]
  clear hW haplain hafree
  have B0 := Lib.hid b0
  have B1 := Lib.hid b1
  have B2 := Lib.hid b2
  clear b0 b1 b2
  have p0 := B2.out.cell 0
  have p1 := B2.out.cell 1
  have p2 := B2.out.cell 2
  have p3 := B2.out.cell 3
  go_wp2_with fail
  refine (HM.out W HBW.out).mono ?_
  rintro e w1 ⟨rfl, hb⟩
  have z1 : W.heap.size ≤ w1.heap.size := hb.size
  have HB1 : Hid (Below w.heap.size w w1) := Lib.hid (Below.trans HBW.out (hb.mono (by first | omega | (simp <;> omega))))
  have c2 := B2.out.below hb (by first | omega | (simp <;> omega))
  have C0 := Lib.hid (B0.out.below hb (by first | omega | (simp <;> omega)))
  have C1 := Lib.hid (B1.out.below hb (by first | omega | (simp <;> omega)))
  obtain ⟨⟨e0, e1, e2, e3, e4, e5, e6, e7⟩, ef⟩ := C1.out.eight
  have C9 := Lib.hid c2
  clear hb c2 p0 p1 p2 p3 B0 B1 B2 e0 e1 e2 e3 e4 e5 e6 e7 ef
  have HT1 := Lib.hid (there8 C1.out)
  go_upto_region 9 with (refine wpList_store_mid rfl 26 _ _ rfl (w.heap.size + 1) 0 #[.int .i64 op, .string acct, .string ⟨#[]⟩, .string ⟨#[]⟩, .string trace, .string (om), .int .i64 0, .int .i64 0] rfl rfl HT1.out sizeReq (one8 ..) ?_; generalize hV0 : World.setCells _ _ _ _ = V0)
  have bV0 : bk V0 (w.heap.size + 1) 26 [.int .i64 op, .string acct, .string ⟨#[]⟩, .string ⟨#[]⟩, .string trace, .string (om), .int .i64 0, .int .i64 0] := by rw [← hV0]; exact set8_bk C1.out (.int .i64 op) (.string acct) (.string ⟨#[]⟩) (.string ⟨#[]⟩) (.string trace) (.string (om)) (.int .i64 0) (.int .i64 0)
  have tV0 : Turned (w.heap.size + 1) (w.heap.size + 1 + 1) w1 V0 := by rw [← hV0]; exact set8_turned w1 (w.heap.size + 1) (.int .i64 op) (.string acct) (.string ⟨#[]⟩) (.string ⟨#[]⟩) (.string trace) (.string (om)) (.int .i64 0) (.int .i64 0)
  clear hV0 HT1 C1
  have zv := tV0.size
  have C9 := Lib.hid (C9.out.under tV0 (by omega))
  have q9 := C9.out.cell 3
  have e9 := bV0.cell 3
  have f9 := bV0.frozen 3
  go_upto_region 22 with fail
  obtain ⟨V1, hV⟩ : ∃ V, V = V0.setCell ⟨w.heap.size + 1, 3, none⟩ (.string hold) := ⟨_, rfl⟩
  have bV : bk V1 (w.heap.size + 1) 26 [.int .i64 op, .string acct, .string ⟨#[]⟩, .string hold, .string trace, .string (om), .int .i64 0, .int .i64 0] := by rw [hV]; exact bV0.set 3 (.string hold)
  have tV : Turned (w.heap.size + 1) (w.heap.size + 1 + 1) w1 V1 := by rw [hV]; exact tV0.set (b := w.heap.size + 1) 3 (.string hold) (by omega) (by omega)
  rw [← hV]
  clear hV q9 e9 f9 tV0 bV0 C9
  have z2 := tV.size
  have HB2 : Hid (Below w.heap.size w V1) := Lib.hid (HB1.out.trans (tV.below (B := w.heap.size) (by omega) (by omega)))
  have C2 := Lib.hid (C0.out.under tV (by omega))
  have HT2 := Lib.hid (there8 C2.out)
  clear tV C0 HB1
  have HLD := Lib.hid (load8r bV)
  clear bV
  go_wp2_with (first | (refine wpList_load_mid rfl 26 _ rfl (w.heap.size + 1) 0 rfl [.int .i64 op, .string acct, .string ⟨#[]⟩, .string hold, .string trace, .string (om), .int .i64 0, .int .i64 0] _ HLD.out Tryd.underlying26 rfl sizeReq ?_) | (refine wpList_store_mid rfl 26 _ _ rfl w.heap.size 0 #[.int .i64 op, .string acct, .string ⟨#[]⟩, .string hold, .string trace, .string (om), .int .i64 0, .int .i64 0] rfl rfl HT2.out sizeReq (one8 ..) ?_; generalize hV2 : World.setCells _ _ _ _ = V2))
  have bV2 : bk V2 w.heap.size 26 [.int .i64 op, .string acct, .string ⟨#[]⟩, .string hold, .string trace, .string (om), .int .i64 0, .int .i64 0] := by rw [← hV2]; exact set8_bk C2.out (.int .i64 op) (.string acct) (.string ⟨#[]⟩) (.string hold) (.string trace) (.string (om)) (.int .i64 0) (.int .i64 0)
  have tV2 : Turned w.heap.size (w.heap.size + 1) V1 V2 := by rw [← hV2]; exact set8_turned V1 w.heap.size (.int .i64 op) (.string acct) (.string ⟨#[]⟩) (.string hold) (.string trace) (.string (om)) (.int .i64 0) (.int .i64 0)
  have HB3 : Hid (Below w.heap.size w V2) := Lib.hid (HB2.out.trans (tV2.below (B := w.heap.size) (by omega) (by omega)))
  obtain ⟨⟨f0, f1, f2, f3, f4, f5, f6, f7⟩, -⟩ := bV2.eight
  exact bodyPost_ret (v := .agg #[.int .i64 op, .string acct, .string ⟨#[]⟩, .string hold, .string trace, .string (om), .int .i64 0, .int .i64 0]) (by simp [results, Tryd.results17, go_sem, f0, f1, f2, f3, f4, f5, f6, f7]) rfl ⟨rfl, HB3.out⟩
set_option maxRecDepth 100000 in
set_option maxHeartbeats 1000000 in
theorem reqOf_amt (op : Int) (acct trace hold : ByteArray) (amount : Int) (w : World) (hO : opsIn w) :
    Calls Tryd.prog 17 #[.iface 45 (.agg #[.int .i64 op, .string acct, .string trace, .string hold, .int .i64 amount])] w fun e w' => e = .returned (.agg #[.int .i64 op, .string acct, .string ⟨#[]⟩, .string hold, .string trace, .string (opTxt 0 op), .int .i64 amount, .int .i64 0]) ∧ Below w.heap.size w w' := by
  have haplain := as_amt_plain op acct trace hold amount
  have hafree := as_amt_free op acct trace hold amount
  have haamt := as_amt_amt op acct trace hold amount
  have HM := Lib.hid (fun V (hV : Below w.heap.size w V) => reqOf_free op acct trace hold V (hO.below hV))
  generalize opTxt 0 op = om at HM ⊢
  clear hO
  go_enter Tryd.func17, Tryd.ntmps17
  go_upto_region 12 with fail
  obtain ⟨W, hW⟩ : ∃ W, W = ((w.alloc (.cells #[.int .i64 0, .string ⟨#[]⟩, .string ⟨#[]⟩, .string ⟨#[]⟩, .string ⟨#[]⟩, .string ⟨#[]⟩, .int .i64 0, .int .i64 0] 26)).alloc (.cells #[.int .i64 0, .string ⟨#[]⟩, .string ⟨#[]⟩, .string ⟨#[]⟩, .string ⟨#[]⟩, .string ⟨#[]⟩, .int .i64 0, .int .i64 0] 26)).alloc (.cells #[.int .i64 op, .string acct, .string trace, .string hold, .int .i64 amount] 45) := ⟨_, rfl⟩
  have b0 : bk W w.heap.size 26 [.int .i64 0, .string ⟨#[]⟩, .string ⟨#[]⟩, .string ⟨#[]⟩, .string ⟨#[]⟩, .string ⟨#[]⟩, .int .i64 0, .int .i64 0] := by rw [hW]; have h0 := bk.new w 26 [.int .i64 0, .string ⟨#[]⟩, .string ⟨#[]⟩, .string ⟨#[]⟩, .string ⟨#[]⟩, .string ⟨#[]⟩, .int .i64 0, .int .i64 0]; simpa using (h0.alloc _).alloc _
  have b1 : bk W (w.heap.size + 1) 26 [.int .i64 0, .string ⟨#[]⟩, .string ⟨#[]⟩, .string ⟨#[]⟩, .string ⟨#[]⟩, .string ⟨#[]⟩, .int .i64 0, .int .i64 0] := by rw [hW]; have h0 := bk.new (w.alloc (.cells #[.int .i64 0, .string ⟨#[]⟩, .string ⟨#[]⟩, .string ⟨#[]⟩, .string ⟨#[]⟩, .string ⟨#[]⟩, .int .i64 0, .int .i64 0] 26)) 26 [.int .i64 0, .string ⟨#[]⟩, .string ⟨#[]⟩, .string ⟨#[]⟩, .string ⟨#[]⟩, .string ⟨#[]⟩, .int .i64 0, .int .i64 0]; simpa using h0.alloc _
  have b2 : bk W (w.heap.size + 1 + 1) 45 [.int .i64 op, .string acct, .string trace, .string hold, .int .i64 amount] := by rw [hW]; have h0 := bk.new ((w.alloc (.cells #[.int .i64 0, .string ⟨#[]⟩, .string ⟨#[]⟩, .string ⟨#[]⟩, .string ⟨#[]⟩, .string ⟨#[]⟩, .int .i64 0, .int .i64 0] 26)).alloc (.cells #[.int .i64 0, .string ⟨#[]⟩, .string ⟨#[]⟩, .string ⟨#[]⟩, .string ⟨#[]⟩, .string ⟨#[]⟩, .int .i64 0, .int .i64 0] 26)) 45 [.int .i64 op, .string acct, .string trace, .string hold, .int .i64 amount]; simpa using h0
  have HBW : Hid (Below w.heap.size w W) := Lib.hid (by rw [hW]; exact (((Below.refl _ _).alloc (Nat.le_refl _) _).alloc (by simp) _).alloc (by simp; omega) _)
  have z0 : w.heap.size + 3 ≤ W.heap.size := by rw [hW]; simp
  rw [← hW]
  clear hW haplain hafree haamt
  have B0 := Lib.hid b0
  have B1 := Lib.hid b1
  have B2 := Lib.hid b2
  clear b0 b1 b2
  have p0 := B2.out.cell 0
  have p1 := B2.out.cell 1
  have p2 := B2.out.cell 2
  have p3 := B2.out.cell 3
  have p4 := B2.out.cell 4
  go_wp2_with fail
  refine (HM.out W HBW.out).mono ?_
  rintro e w1 ⟨rfl, hb⟩
  have z1 : W.heap.size ≤ w1.heap.size := hb.size
  have HB1 : Hid (Below w.heap.size w w1) := Lib.hid (Below.trans HBW.out (hb.mono (by first | omega | (simp <;> omega))))
  have c2 := B2.out.below hb (by first | omega | (simp <;> omega))
  have C0 := Lib.hid (B0.out.below hb (by first | omega | (simp <;> omega)))
  have C1 := Lib.hid (B1.out.below hb (by first | omega | (simp <;> omega)))
  obtain ⟨⟨e0, e1, e2, e3, e4, e5, e6, e7⟩, ef⟩ := C1.out.eight
  have C9 := Lib.hid c2
  clear hb c2 p0 p1 p2 p3 p4 B0 B1 B2 e0 e1 e2 e3 e4 e5 e6 e7 ef
  have HT1 := Lib.hid (there8 C1.out)
  go_upto_region 13 with (refine wpList_store_mid rfl 26 _ _ rfl (w.heap.size + 1) 0 #[.int .i64 op, .string acct, .string ⟨#[]⟩, .string hold, .string trace, .string (om), .int .i64 0, .int .i64 0] rfl rfl HT1.out sizeReq (one8 ..) ?_; generalize hV0 : World.setCells _ _ _ _ = V0)
  have bV0 : bk V0 (w.heap.size + 1) 26 [.int .i64 op, .string acct, .string ⟨#[]⟩, .string hold, .string trace, .string (om), .int .i64 0, .int .i64 0] := by rw [← hV0]; exact set8_bk C1.out (.int .i64 op) (.string acct) (.string ⟨#[]⟩) (.string hold) (.string trace) (.string (om)) (.int .i64 0) (.int .i64 0)
  have tV0 : Turned (w.heap.size + 1) (w.heap.size + 1 + 1) w1 V0 := by rw [← hV0]; exact set8_turned w1 (w.heap.size + 1) (.int .i64 op) (.string acct) (.string ⟨#[]⟩) (.string hold) (.string trace) (.string (om)) (.int .i64 0) (.int .i64 0)
  clear hV0 HT1 C1
  have zv := tV0.size
  have C9 := Lib.hid (C9.out.under tV0 (by omega))
  have q9 := C9.out.cell 4
  have e9 := bV0.cell 6
  have f9 := bV0.frozen 6
  go_upto_region 22 with fail
  obtain ⟨V1, hV⟩ : ∃ V, V = V0.setCell ⟨w.heap.size + 1, 6, none⟩ (.int .i64 amount) := ⟨_, rfl⟩
  have bV : bk V1 (w.heap.size + 1) 26 [.int .i64 op, .string acct, .string ⟨#[]⟩, .string hold, .string trace, .string (om), .int .i64 amount, .int .i64 0] := by rw [hV]; exact bV0.set 6 (.int .i64 amount)
  have tV : Turned (w.heap.size + 1) (w.heap.size + 1 + 1) w1 V1 := by rw [hV]; exact tV0.set (b := w.heap.size + 1) 6 (.int .i64 amount) (by omega) (by omega)
  rw [← hV]
  clear hV q9 e9 f9 tV0 bV0 C9
  have z2 := tV.size
  have HB2 : Hid (Below w.heap.size w V1) := Lib.hid (HB1.out.trans (tV.below (B := w.heap.size) (by omega) (by omega)))
  have C2 := Lib.hid (C0.out.under tV (by omega))
  have HT2 := Lib.hid (there8 C2.out)
  clear tV C0 HB1
  have HLD := Lib.hid (load8r bV)
  clear bV
  go_wp2_with (first | (refine wpList_load_mid rfl 26 _ rfl (w.heap.size + 1) 0 rfl [.int .i64 op, .string acct, .string ⟨#[]⟩, .string hold, .string trace, .string (om), .int .i64 amount, .int .i64 0] _ HLD.out Tryd.underlying26 rfl sizeReq ?_) | (refine wpList_store_mid rfl 26 _ _ rfl w.heap.size 0 #[.int .i64 op, .string acct, .string ⟨#[]⟩, .string hold, .string trace, .string (om), .int .i64 amount, .int .i64 0] rfl rfl HT2.out sizeReq (one8 ..) ?_; generalize hV2 : World.setCells _ _ _ _ = V2))
  have bV2 : bk V2 w.heap.size 26 [.int .i64 op, .string acct, .string ⟨#[]⟩, .string hold, .string trace, .string (om), .int .i64 amount, .int .i64 0] := by rw [← hV2]; exact set8_bk C2.out (.int .i64 op) (.string acct) (.string ⟨#[]⟩) (.string hold) (.string trace) (.string (om)) (.int .i64 amount) (.int .i64 0)
  have tV2 : Turned w.heap.size (w.heap.size + 1) V1 V2 := by rw [← hV2]; exact set8_turned V1 w.heap.size (.int .i64 op) (.string acct) (.string ⟨#[]⟩) (.string hold) (.string trace) (.string (om)) (.int .i64 amount) (.int .i64 0)
  have HB3 : Hid (Below w.heap.size w V2) := Lib.hid (HB2.out.trans (tV2.below (B := w.heap.size) (by omega) (by omega)))
  obtain ⟨⟨f0, f1, f2, f3, f4, f5, f6, f7⟩, -⟩ := bV2.eight
  exact bodyPost_ret (v := .agg #[.int .i64 op, .string acct, .string ⟨#[]⟩, .string hold, .string trace, .string (om), .int .i64 amount, .int .i64 0]) (by simp [results, Tryd.results17, go_sem, f0, f1, f2, f3, f4, f5, f6, f7]) rfl ⟨rfl, HB3.out⟩
set_option maxRecDepth 100000 in
set_option maxHeartbeats 1000000 in
theorem reqOf_auth (op : Int) (acct trace hold : ByteArray) (amount : Int) (ttl : Int) (w : World) (hO : opsIn w) :
    Calls Tryd.prog 17 #[.iface 47 (.agg #[.int .i64 op, .string acct, .string trace, .string hold, .int .i64 amount, .int .i64 ttl])] w fun e w' => e = .returned (.agg #[.int .i64 op, .string acct, .string ⟨#[]⟩, .string hold, .string trace, .string (opTxt 0 op), .int .i64 amount, .int .i64 ttl]) ∧ Below w.heap.size w w' := by
  have haplain := as_auth_plain op acct trace hold amount ttl
  have hafree := as_auth_free op acct trace hold amount ttl
  have haamt := as_auth_amt op acct trace hold amount ttl
  have haauth := as_auth_auth op acct trace hold amount ttl
  have HM := Lib.hid (fun V (hV : Below w.heap.size w V) => reqOf_amt op acct trace hold amount V (hO.below hV))
  generalize opTxt 0 op = om at HM ⊢
  clear hO
  go_enter Tryd.func17, Tryd.ntmps17
  go_upto_region 16 with fail
  obtain ⟨W, hW⟩ : ∃ W, W = ((w.alloc (.cells #[.int .i64 0, .string ⟨#[]⟩, .string ⟨#[]⟩, .string ⟨#[]⟩, .string ⟨#[]⟩, .string ⟨#[]⟩, .int .i64 0, .int .i64 0] 26)).alloc (.cells #[.int .i64 0, .string ⟨#[]⟩, .string ⟨#[]⟩, .string ⟨#[]⟩, .string ⟨#[]⟩, .string ⟨#[]⟩, .int .i64 0, .int .i64 0] 26)).alloc (.cells #[.int .i64 op, .string acct, .string trace, .string hold, .int .i64 amount, .int .i64 ttl] 47) := ⟨_, rfl⟩
  have b0 : bk W w.heap.size 26 [.int .i64 0, .string ⟨#[]⟩, .string ⟨#[]⟩, .string ⟨#[]⟩, .string ⟨#[]⟩, .string ⟨#[]⟩, .int .i64 0, .int .i64 0] := by rw [hW]; have h0 := bk.new w 26 [.int .i64 0, .string ⟨#[]⟩, .string ⟨#[]⟩, .string ⟨#[]⟩, .string ⟨#[]⟩, .string ⟨#[]⟩, .int .i64 0, .int .i64 0]; simpa using (h0.alloc _).alloc _
  have b1 : bk W (w.heap.size + 1) 26 [.int .i64 0, .string ⟨#[]⟩, .string ⟨#[]⟩, .string ⟨#[]⟩, .string ⟨#[]⟩, .string ⟨#[]⟩, .int .i64 0, .int .i64 0] := by rw [hW]; have h0 := bk.new (w.alloc (.cells #[.int .i64 0, .string ⟨#[]⟩, .string ⟨#[]⟩, .string ⟨#[]⟩, .string ⟨#[]⟩, .string ⟨#[]⟩, .int .i64 0, .int .i64 0] 26)) 26 [.int .i64 0, .string ⟨#[]⟩, .string ⟨#[]⟩, .string ⟨#[]⟩, .string ⟨#[]⟩, .string ⟨#[]⟩, .int .i64 0, .int .i64 0]; simpa using h0.alloc _
  have b2 : bk W (w.heap.size + 1 + 1) 47 [.int .i64 op, .string acct, .string trace, .string hold, .int .i64 amount, .int .i64 ttl] := by rw [hW]; have h0 := bk.new ((w.alloc (.cells #[.int .i64 0, .string ⟨#[]⟩, .string ⟨#[]⟩, .string ⟨#[]⟩, .string ⟨#[]⟩, .string ⟨#[]⟩, .int .i64 0, .int .i64 0] 26)).alloc (.cells #[.int .i64 0, .string ⟨#[]⟩, .string ⟨#[]⟩, .string ⟨#[]⟩, .string ⟨#[]⟩, .string ⟨#[]⟩, .int .i64 0, .int .i64 0] 26)) 47 [.int .i64 op, .string acct, .string trace, .string hold, .int .i64 amount, .int .i64 ttl]; simpa using h0
  have HBW : Hid (Below w.heap.size w W) := Lib.hid (by rw [hW]; exact (((Below.refl _ _).alloc (Nat.le_refl _) _).alloc (by simp) _).alloc (by simp; omega) _)
  have z0 : w.heap.size + 3 ≤ W.heap.size := by rw [hW]; simp
  rw [← hW]
  clear hW haplain hafree haamt haauth
  have B0 := Lib.hid b0
  have B1 := Lib.hid b1
  have B2 := Lib.hid b2
  clear b0 b1 b2
  have p0 := B2.out.cell 0
  have p1 := B2.out.cell 1
  have p2 := B2.out.cell 2
  have p3 := B2.out.cell 3
  have p4 := B2.out.cell 4
  have p5 := B2.out.cell 5
  go_wp2_with fail
  refine (HM.out W HBW.out).mono ?_
  rintro e w1 ⟨rfl, hb⟩
  have z1 : W.heap.size ≤ w1.heap.size := hb.size
  have HB1 : Hid (Below w.heap.size w w1) := Lib.hid (Below.trans HBW.out (hb.mono (by first | omega | (simp <;> omega))))
  have c2 := B2.out.below hb (by first | omega | (simp <;> omega))
  have C0 := Lib.hid (B0.out.below hb (by first | omega | (simp <;> omega)))
  have C1 := Lib.hid (B1.out.below hb (by first | omega | (simp <;> omega)))
  obtain ⟨⟨e0, e1, e2, e3, e4, e5, e6, e7⟩, ef⟩ := C1.out.eight
  have C9 := Lib.hid c2
  clear hb c2 p0 p1 p2 p3 p4 p5 B0 B1 B2 e0 e1 e2 e3 e4 e5 e6 e7 ef
  have HT1 := Lib.hid (there8 C1.out)
  go_upto_region 17 with (refine wpList_store_mid rfl 26 _ _ rfl (w.heap.size + 1) 0 #[.int .i64 op, .string acct, .string ⟨#[]⟩, .string hold, .string trace, .string (om), .int .i64 amount, .int .i64 0] rfl rfl HT1.out sizeReq (one8 ..) ?_; generalize hV0 : World.setCells _ _ _ _ = V0)
  have bV0 : bk V0 (w.heap.size + 1) 26 [.int .i64 op, .string acct, .string ⟨#[]⟩, .string hold, .string trace, .string (om), .int .i64 amount, .int .i64 0] := by rw [← hV0]; exact set8_bk C1.out (.int .i64 op) (.string acct) (.string ⟨#[]⟩) (.string hold) (.string trace) (.string (om)) (.int .i64 amount) (.int .i64 0)
  have tV0 : Turned (w.heap.size + 1) (w.heap.size + 1 + 1) w1 V0 := by rw [← hV0]; exact set8_turned w1 (w.heap.size + 1) (.int .i64 op) (.string acct) (.string ⟨#[]⟩) (.string hold) (.string trace) (.string (om)) (.int .i64 amount) (.int .i64 0)
  clear hV0 HT1 C1
  have zv := tV0.size
  have C9 := Lib.hid (C9.out.under tV0 (by omega))
  have q9 := C9.out.cell 5
  have e9 := bV0.cell 7
  have f9 := bV0.frozen 7
  go_upto_region 22 with fail
  obtain ⟨V1, hV⟩ : ∃ V, V = V0.setCell ⟨w.heap.size + 1, 7, none⟩ (.int .i64 ttl) := ⟨_, rfl⟩
  have bV : bk V1 (w.heap.size + 1) 26 [.int .i64 op, .string acct, .string ⟨#[]⟩, .string hold, .string trace, .string (om), .int .i64 amount, .int .i64 ttl] := by rw [hV]; exact bV0.set 7 (.int .i64 ttl)
  have tV : Turned (w.heap.size + 1) (w.heap.size + 1 + 1) w1 V1 := by rw [hV]; exact tV0.set (b := w.heap.size + 1) 7 (.int .i64 ttl) (by omega) (by omega)
  rw [← hV]
  clear hV q9 e9 f9 tV0 bV0 C9
  have z2 := tV.size
  have HB2 : Hid (Below w.heap.size w V1) := Lib.hid (HB1.out.trans (tV.below (B := w.heap.size) (by omega) (by omega)))
  have C2 := Lib.hid (C0.out.under tV (by omega))
  have HT2 := Lib.hid (there8 C2.out)
  clear tV C0 HB1
  have HLD := Lib.hid (load8r bV)
  clear bV
  go_wp2_with (first | (refine wpList_load_mid rfl 26 _ rfl (w.heap.size + 1) 0 rfl [.int .i64 op, .string acct, .string ⟨#[]⟩, .string hold, .string trace, .string (om), .int .i64 amount, .int .i64 ttl] _ HLD.out Tryd.underlying26 rfl sizeReq ?_) | (refine wpList_store_mid rfl 26 _ _ rfl w.heap.size 0 #[.int .i64 op, .string acct, .string ⟨#[]⟩, .string hold, .string trace, .string (om), .int .i64 amount, .int .i64 ttl] rfl rfl HT2.out sizeReq (one8 ..) ?_; generalize hV2 : World.setCells _ _ _ _ = V2))
  have bV2 : bk V2 w.heap.size 26 [.int .i64 op, .string acct, .string ⟨#[]⟩, .string hold, .string trace, .string (om), .int .i64 amount, .int .i64 ttl] := by rw [← hV2]; exact set8_bk C2.out (.int .i64 op) (.string acct) (.string ⟨#[]⟩) (.string hold) (.string trace) (.string (om)) (.int .i64 amount) (.int .i64 ttl)
  have tV2 : Turned w.heap.size (w.heap.size + 1) V1 V2 := by rw [← hV2]; exact set8_turned V1 w.heap.size (.int .i64 op) (.string acct) (.string ⟨#[]⟩) (.string hold) (.string trace) (.string (om)) (.int .i64 amount) (.int .i64 ttl)
  have HB3 : Hid (Below w.heap.size w V2) := Lib.hid (HB2.out.trans (tV2.below (B := w.heap.size) (by omega) (by omega)))
  obtain ⟨⟨f0, f1, f2, f3, f4, f5, f6, f7⟩, -⟩ := bV2.eight
  exact bodyPost_ret (v := .agg #[.int .i64 op, .string acct, .string ⟨#[]⟩, .string hold, .string trace, .string (om), .int .i64 amount, .int .i64 ttl]) (by simp [results, Tryd.results17, go_sem, f0, f1, f2, f3, f4, f5, f6, f7]) rfl ⟨rfl, HB3.out⟩
set_option maxRecDepth 100000 in
set_option maxHeartbeats 1000000 in
theorem reqOf_move (op : Int) (acct trace hold other : ByteArray) (w : World) (hO : opsIn w) :
    Calls Tryd.prog 17 #[.iface 49 (.agg #[.int .i64 op, .string acct, .string trace, .string hold, .string other])] w fun e w' => e = .returned (.agg #[.int .i64 op, .string acct, .string other, .string hold, .string trace, .string (opTxt 0 op), .int .i64 0, .int .i64 0]) ∧ Below w.heap.size w w' := by
  have haplain := as_move_plain op acct trace hold other
  have hafree := as_move_free op acct trace hold other
  have haamt := as_move_amt op acct trace hold other
  have haauth := as_move_auth op acct trace hold other
  have hamove := as_move_move op acct trace hold other
  have HM := Lib.hid (fun V (hV : Below w.heap.size w V) => reqOf_free op acct trace hold V (hO.below hV))
  generalize opTxt 0 op = om at HM ⊢
  clear hO
  go_enter Tryd.func17, Tryd.ntmps17
  go_upto_region 20 with fail
  obtain ⟨W, hW⟩ : ∃ W, W = ((w.alloc (.cells #[.int .i64 0, .string ⟨#[]⟩, .string ⟨#[]⟩, .string ⟨#[]⟩, .string ⟨#[]⟩, .string ⟨#[]⟩, .int .i64 0, .int .i64 0] 26)).alloc (.cells #[.int .i64 0, .string ⟨#[]⟩, .string ⟨#[]⟩, .string ⟨#[]⟩, .string ⟨#[]⟩, .string ⟨#[]⟩, .int .i64 0, .int .i64 0] 26)).alloc (.cells #[.int .i64 op, .string acct, .string trace, .string hold, .string other] 49) := ⟨_, rfl⟩
  have b0 : bk W w.heap.size 26 [.int .i64 0, .string ⟨#[]⟩, .string ⟨#[]⟩, .string ⟨#[]⟩, .string ⟨#[]⟩, .string ⟨#[]⟩, .int .i64 0, .int .i64 0] := by rw [hW]; have h0 := bk.new w 26 [.int .i64 0, .string ⟨#[]⟩, .string ⟨#[]⟩, .string ⟨#[]⟩, .string ⟨#[]⟩, .string ⟨#[]⟩, .int .i64 0, .int .i64 0]; simpa using (h0.alloc _).alloc _
  have b1 : bk W (w.heap.size + 1) 26 [.int .i64 0, .string ⟨#[]⟩, .string ⟨#[]⟩, .string ⟨#[]⟩, .string ⟨#[]⟩, .string ⟨#[]⟩, .int .i64 0, .int .i64 0] := by rw [hW]; have h0 := bk.new (w.alloc (.cells #[.int .i64 0, .string ⟨#[]⟩, .string ⟨#[]⟩, .string ⟨#[]⟩, .string ⟨#[]⟩, .string ⟨#[]⟩, .int .i64 0, .int .i64 0] 26)) 26 [.int .i64 0, .string ⟨#[]⟩, .string ⟨#[]⟩, .string ⟨#[]⟩, .string ⟨#[]⟩, .string ⟨#[]⟩, .int .i64 0, .int .i64 0]; simpa using h0.alloc _
  have b2 : bk W (w.heap.size + 1 + 1) 49 [.int .i64 op, .string acct, .string trace, .string hold, .string other] := by rw [hW]; have h0 := bk.new ((w.alloc (.cells #[.int .i64 0, .string ⟨#[]⟩, .string ⟨#[]⟩, .string ⟨#[]⟩, .string ⟨#[]⟩, .string ⟨#[]⟩, .int .i64 0, .int .i64 0] 26)).alloc (.cells #[.int .i64 0, .string ⟨#[]⟩, .string ⟨#[]⟩, .string ⟨#[]⟩, .string ⟨#[]⟩, .string ⟨#[]⟩, .int .i64 0, .int .i64 0] 26)) 49 [.int .i64 op, .string acct, .string trace, .string hold, .string other]; simpa using h0
  have HBW : Hid (Below w.heap.size w W) := Lib.hid (by rw [hW]; exact (((Below.refl _ _).alloc (Nat.le_refl _) _).alloc (by simp) _).alloc (by simp; omega) _)
  have z0 : w.heap.size + 3 ≤ W.heap.size := by rw [hW]; simp
  rw [← hW]
  clear hW haplain hafree haamt haauth hamove
  have B0 := Lib.hid b0
  have B1 := Lib.hid b1
  have B2 := Lib.hid b2
  clear b0 b1 b2
  have p0 := B2.out.cell 0
  have p1 := B2.out.cell 1
  have p2 := B2.out.cell 2
  have p3 := B2.out.cell 3
  have p4 := B2.out.cell 4
  go_wp2_with fail
  refine (HM.out W HBW.out).mono ?_
  rintro e w1 ⟨rfl, hb⟩
  have z1 : W.heap.size ≤ w1.heap.size := hb.size
  have HB1 : Hid (Below w.heap.size w w1) := Lib.hid (Below.trans HBW.out (hb.mono (by first | omega | (simp <;> omega))))
  have c2 := B2.out.below hb (by first | omega | (simp <;> omega))
  have C0 := Lib.hid (B0.out.below hb (by first | omega | (simp <;> omega)))
  have C1 := Lib.hid (B1.out.below hb (by first | omega | (simp <;> omega)))
  obtain ⟨⟨e0, e1, e2, e3, e4, e5, e6, e7⟩, ef⟩ := C1.out.eight
  have C9 := Lib.hid c2
  clear hb c2 p0 p1 p2 p3 p4 B0 B1 B2 e0 e1 e2 e3 e4 e5 e6 e7 ef
  have HT1 := Lib.hid (there8 C1.out)
  go_upto_region 21 with (refine wpList_store_mid rfl 26 _ _ rfl (w.heap.size + 1) 0 #[.int .i64 op, .string acct, .string ⟨#[]⟩, .string hold, .string trace, .string (om), .int .i64 0, .int .i64 0] rfl rfl HT1.out sizeReq (one8 ..) ?_; generalize hV0 : World.setCells _ _ _ _ = V0)
  have bV0 : bk V0 (w.heap.size + 1) 26 [.int .i64 op, .string acct, .string ⟨#[]⟩, .string hold, .string trace, .string (om), .int .i64 0, .int .i64 0] := by rw [← hV0]; exact set8_bk C1.out (.int .i64 op) (.string acct) (.string ⟨#[]⟩) (.string hold) (.string trace) (.string (om)) (.int .i64 0) (.int .i64 0)
  have tV0 : Turned (w.heap.size + 1) (w.heap.size + 1 + 1) w1 V0 := by rw [← hV0]; exact set8_turned w1 (w.heap.size + 1) (.int .i64 op) (.string acct) (.string ⟨#[]⟩) (.string hold) (.string trace) (.string (om)) (.int .i64 0) (.int .i64 0)
  clear hV0 HT1 C1
  have zv := tV0.size
  have C9 := Lib.hid (C9.out.under tV0 (by omega))
  have q9 := C9.out.cell 4
  have e9 := bV0.cell 2
  have f9 := bV0.frozen 2
  go_upto_region 22 with fail
  obtain ⟨V1, hV⟩ : ∃ V, V = V0.setCell ⟨w.heap.size + 1, 2, none⟩ (.string other) := ⟨_, rfl⟩
  have bV : bk V1 (w.heap.size + 1) 26 [.int .i64 op, .string acct, .string other, .string hold, .string trace, .string (om), .int .i64 0, .int .i64 0] := by rw [hV]; exact bV0.set 2 (.string other)
  have tV : Turned (w.heap.size + 1) (w.heap.size + 1 + 1) w1 V1 := by rw [hV]; exact tV0.set (b := w.heap.size + 1) 2 (.string other) (by omega) (by omega)
  rw [← hV]
  clear hV q9 e9 f9 tV0 bV0 C9
  have z2 := tV.size
  have HB2 : Hid (Below w.heap.size w V1) := Lib.hid (HB1.out.trans (tV.below (B := w.heap.size) (by omega) (by omega)))
  have C2 := Lib.hid (C0.out.under tV (by omega))
  have HT2 := Lib.hid (there8 C2.out)
  clear tV C0 HB1
  have HLD := Lib.hid (load8r bV)
  clear bV
  go_wp2_with (first | (refine wpList_load_mid rfl 26 _ rfl (w.heap.size + 1) 0 rfl [.int .i64 op, .string acct, .string other, .string hold, .string trace, .string (om), .int .i64 0, .int .i64 0] _ HLD.out Tryd.underlying26 rfl sizeReq ?_) | (refine wpList_store_mid rfl 26 _ _ rfl w.heap.size 0 #[.int .i64 op, .string acct, .string other, .string hold, .string trace, .string (om), .int .i64 0, .int .i64 0] rfl rfl HT2.out sizeReq (one8 ..) ?_; generalize hV2 : World.setCells _ _ _ _ = V2))
  have bV2 : bk V2 w.heap.size 26 [.int .i64 op, .string acct, .string other, .string hold, .string trace, .string (om), .int .i64 0, .int .i64 0] := by rw [← hV2]; exact set8_bk C2.out (.int .i64 op) (.string acct) (.string other) (.string hold) (.string trace) (.string (om)) (.int .i64 0) (.int .i64 0)
  have tV2 : Turned w.heap.size (w.heap.size + 1) V1 V2 := by rw [← hV2]; exact set8_turned V1 w.heap.size (.int .i64 op) (.string acct) (.string other) (.string hold) (.string trace) (.string (om)) (.int .i64 0) (.int .i64 0)
  have HB3 : Hid (Below w.heap.size w V2) := Lib.hid (HB2.out.trans (tV2.below (B := w.heap.size) (by omega) (by omega)))
  obtain ⟨⟨f0, f1, f2, f3, f4, f5, f6, f7⟩, -⟩ := bV2.eight
  exact bodyPost_ret (v := .agg #[.int .i64 op, .string acct, .string other, .string hold, .string trace, .string (om), .int .i64 0, .int .i64 0]) (by simp [results, Tryd.results17, go_sem, f0, f1, f2, f3, f4, f5, f6, f7]) rfl ⟨rfl, HB3.out⟩
end Go.Proofs.YtmojpiofdfmdgabDoor
