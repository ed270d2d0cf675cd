/- ReqOk of the program, by the operation's class; the table of operations lies as Go's text lays it. -/
import Derived.Test.YtmojpiofdfmdgabDoorMrg2
import Derived.Laws.StructEq
set_option linter.unusedVariables false
namespace Go.Proofs.YtmojpiofdfmdgabDoor
open Go.ChangeShapes Go.WideShapes Go.ChangeAt Go.RowKit

set_option maxRecDepth 100000 in
theorem str_beq8 (a b : ByteArray) : (a.toList == b.toList) = decide (a = b) := by
  by_cases h : a = b
  · subst h; simp
  · rw [decide_eq_false h]; exact str_no h
set_option maxRecDepth 100000 in
theorem str_nil8 (a : ByteArray) : (a.toList = []) ↔ ((⟨#[]⟩ : ByteArray) = a) := by
  have h := str_beq8 a ⟨#[]⟩
  constructor
  · intro e
    have : (a.toList == (⟨#[]⟩ : ByteArray).toList) = true := by rw [e]; decide +kernel
    rw [h] at this
    exact (of_decide_eq_true this).symm
  · rintro rfl
    decide +kernel
set_option maxRecDepth 100000 in
theorem str_eq8 (a b : ByteArray) : (a.toList = b.toList) ↔ (a = b) := by
  have h := str_beq8 a b
  constructor
  · intro e
    have : (a.toList == b.toList) = true := by rw [e]; simp
    rw [h] at this
    exact of_decide_eq_true this
  · rintro rfl
    rfl
set_option maxRecDepth 100000 in
theorem ite_val8 (c : Prop) [Decidable c] (x : Bool) (w : World) : (if c then (Result.ok (Next.value (Value.bool x)) w : Result Next) else .ok (.value (.bool false)) w) = .ok (.value (.bool (decide c && x))) w := by
  by_cases h : c <;> simp [h]
set_option maxRecDepth 100000 in
theorem meth_plain (op : Int) (acct trace : ByteArray) (w : World) : (method 176 41 (.agg #[.int .i64 op, .string acct, .string trace]) "loop.example/g00735/impl.ok").run Tryd.prog w = .ok (38, .agg #[.int .i64 op, .string acct, .string trace]) w := by kernel_rfl
set_option maxRecDepth 100000 in
theorem meth_free (op : Int) (acct trace hold : ByteArray) (w : World) : (method 176 43 (.agg #[.int .i64 op, .string acct, .string trace, .string hold]) "loop.example/g00735/impl.ok").run Tryd.prog w = .ok (48, .agg #[.int .i64 op, .string acct, .string trace, .string hold]) w := by kernel_rfl
set_option maxRecDepth 100000 in
theorem meth_amt (op : Int) (acct trace hold : ByteArray) (amount : Int) (w : World) : (method 176 45 (.agg #[.int .i64 op, .string acct, .string trace, .string hold, .int .i64 amount]) "loop.example/g00735/impl.ok").run Tryd.prog w = .ok (51, .agg #[.int .i64 op, .string acct, .string trace, .string hold, .int .i64 amount]) w := by kernel_rfl
set_option maxRecDepth 100000 in
theorem meth_auth (op : Int) (acct trace hold : ByteArray) (amount : Int) (ttl : Int) (w : World) : (method 176 47 (.agg #[.int .i64 op, .string acct, .string trace, .string hold, .int .i64 amount, .int .i64 ttl]) "loop.example/g00735/impl.ok").run Tryd.prog w = .ok (53, .agg #[.int .i64 op, .string acct, .string trace, .string hold, .int .i64 amount, .int .i64 ttl]) w := by kernel_rfl
set_option maxRecDepth 100000 in
theorem meth_move (op : Int) (acct trace hold other : ByteArray) (w : World) : (method 176 49 (.agg #[.int .i64 op, .string acct, .string trace, .string hold, .string other]) "loop.example/g00735/impl.ok").run Tryd.prog w = .ok (55, .agg #[.int .i64 op, .string acct, .string trace, .string hold, .string other]) w := by kernel_rfl
set_option maxRecDepth 100000 in
set_option maxHeartbeats 8000000 in
theorem implReqOk_plain (op : Int) (hop : op < 1 ∨ 6 < op) (acct other hold trace mti om : ByteArray) (amount ttl : Int) (w : World) (hO : opsIn w) (hs1 : acct.size ≤ maxLen) (hs2 : other.size ≤ maxLen) (hs3 : hold.size ≤ maxLen) (hs4 : trace.size ≤ maxLen) (hom : opTxt 0 op = om) :
    Calls Tryd.prog 7 #[.agg #[.int .i64 op, .string acct, .string other, .string hold, .string trace, .string mti, .int .i64 amount, .int .i64 ttl]] w fun e w' => e = .returned (.bool ((plainB op acct trace) && (decide (op = op) && (decide (acct = acct) && (decide (⟨#[]⟩ = other) && (decide (⟨#[]⟩ = hold) && (decide (trace = trace) && (decide (om = mti) && (decide (0 = amount) && (decide (0 = ttl))))))))))) ∧ Below w.heap.size w w' := by
  have HQ := Lib.hid (fun V => requestOf_plain op hop acct other hold trace mti amount ttl V)
  have HOK := Lib.hid (fun V (hV : Below w.heap.size w V) => plainOk_any op acct trace V (hO.below hV) hs1 hs4)
  have HRO := Lib.hid (fun V (hV : Below w.heap.size w V) => reqOf_plain op acct trace V (hO.below hV))
  rw [hom] at HRO
  generalize (plainB op acct trace) = bo at HOK ⊢
  have HM := Lib.hid (meth_plain op acct trace)
  clear hO hs1 hs2 hs3 hs4 hom
  go_enter Tryd.func7, Tryd.ntmps7
  go_upto_region 1 with fail
  obtain ⟨W, hW⟩ : ∃ W, W = w.alloc (.cells #[.int .i64 op, .string acct, .string other, .string hold, .string trace, .string mti, .int .i64 amount, .int .i64 ttl] 26) := ⟨_, rfl⟩
  have b0 : bk W w.heap.size 26 [.int .i64 op, .string acct, .string other, .string hold, .string trace, .string mti, .int .i64 amount, .int .i64 ttl] := by rw [hW]; exact bk.new w _ _
  have HBW : Hid (Below w.heap.size w W) := Lib.hid (by rw [hW]; exact (Below.refl _ _).alloc (Nat.le_refl _) _)
  have z0 := b0.lt
  rw [← hW]
  clear hW
  have B0 := Lib.hid b0
  obtain ⟨⟨p0, p1, p2, p3, p4, p5, p6, p7⟩, -⟩ := b0.eight
  clear b0
  go_wp2_with fail
  refine (HQ.out _).mono ?_
  rintro e w1 ⟨rfl, hb⟩
  have z1 := hb.size
  have B1 := Lib.hid (B0.out.below hb z0)
  have HB1 : Hid (Below w.heap.size w w1) := Lib.hid (HBW.out.trans (hb.mono (by omega)))
  clear hb p0 p1 p2 p3 p4 p5 p6 p7 B0 HBW HQ
  have HBX : Hid (∀ V, Ext w1 V → Below w.heap.size w V) := Lib.hid fun V hV => HB1.out.trans (hV.below.mono (by omega))
  obtain ⟨⟨p0, p1, p2, p3, p4, p5, p6, p7⟩, -⟩ := B1.out.eight
  have P0 := Lib.hid p0
  have P1 := Lib.hid p1
  have P2 := Lib.hid p2
  have P3 := Lib.hid p3
  have P4 := Lib.hid p4
  have P5 := Lib.hid p5
  have P6 := Lib.hid p6
  have P7 := Lib.hid p7
  clear p0 p1 p2 p3 p4 p5 p6 p7
  go_upto_region 2 with fail
  have HX : Hid (Ext w1 w1.drew) := Lib.hid (Ext.refl w1).drew
  cases bo
  all_goals refine quiet_region (C := Ext w1) (by kernel_rfl) (by kernel_rfl) HX.out ?_
  all_goals repeat (first
    | go_big_quiet_skip
    | (go_big_quiet_want; go_big_quiet_op; go_big_quiet_on)
    | (go_big_quiet_want; go_big_quiet_op; apply Exists.intro; refine ⟨fun _ _ => rfl, ?_⟩; go_big_quiet_on)
    | (go_big_quiet_want
       apply Exists.intro
       refine ⟨fun V hV => ?_, ?_⟩
       (have hm := HM.out V
        unfold Oper.quietAt
        go_simp
        go_at_call 38
        refine (HOK.out V (HBX.out V hV)).mono ?_
        rintro e w4 ⟨rfl, hb⟩
        exact ⟨rfl, hV.step hb⟩)
       simp only [Act.put, List.setIfInBounds_toArray, List.set_cons_zero, List.set_cons_succ]
       go_big_quiet_on)
    | (go_big_quiet_want
       apply Exists.intro
       refine ⟨fun V hV => ?_, ?_⟩
       (unfold Oper.quietAt
        go_simp
        go_at_call 17
        refine (HRO.out V (HBX.out V hV)).mono ?_
        rintro e w4 ⟨rfl, hb⟩
        exact ⟨rfl, hV.step hb⟩)
       simp only [Act.put, List.setIfInBounds_toArray, List.set_cons_zero, List.set_cons_succ]
       go_big_quiet_on)
    | (go_big_quiet_want
       apply Exists.intro
       refine ⟨fun V hV => ?_, ?_⟩
       (unfold Oper.quietAt
        go_simp
        simp only [ite_val8]
        exact ⟨trivial, rfl⟩)
       simp only [Act.put, List.setIfInBounds_toArray, List.set_cons_zero, List.set_cons_succ]
       go_big_quiet_on)
    | (go_big_quiet_want
       apply Exists.intro
       refine ⟨fun V hV => ?_, ?_⟩
       (have p0 := hV.cell P0.out (by omega); have p1 := hV.cell P1.out (by omega); have p2 := hV.cell P2.out (by omega); have p3 := hV.cell P3.out (by omega); have p4 := hV.cell P4.out (by omega); have p5 := hV.cell P5.out (by omega); have p6 := hV.cell P6.out (by omega); have p7 := hV.cell P7.out (by omega)
        unfold Oper.quietAt
        go_simp
        rfl)
       simp only [Act.put, List.setIfInBounds_toArray, List.set_cons_zero, List.set_cons_succ]
       go_big_quiet_on)
    | fail)
  all_goals refine wpQuiet_nil ?_
  all_goals intro w2 hw2
  all_goals have HB2 := Lib.hid (HBX.out w2 hw2)
  all_goals go_wp2
  all_goals go_ret
  · exact ⟨rfl, HB2.out⟩
  · exact ⟨congrArg (fun b => Ending.returned (.bool b)) (by first | (simp [str_eq8]; done) | simp [str_nil8, str_eq8]), HB2.out⟩
set_option maxRecDepth 100000 in
set_option maxHeartbeats 8000000 in
theorem implReqOk_free (acct other hold trace mti om : ByteArray) (amount ttl : Int) (w : World) (hO : opsIn w) (hs1 : acct.size ≤ maxLen) (hs2 : other.size ≤ maxLen) (hs3 : hold.size ≤ maxLen) (hs4 : trace.size ≤ maxLen) (hom : opTxt 0 5 = om) :
    Calls Tryd.prog 7 #[.agg #[.int .i64 5, .string acct, .string other, .string hold, .string trace, .string mti, .int .i64 amount, .int .i64 ttl]] w fun e w' => e = .returned (.bool ((plainB 5 acct trace && idOk hold) && (decide (5 = 5) && (decide (acct = acct) && (decide (⟨#[]⟩ = other) && (decide (hold = hold) && (decide (trace = trace) && (decide (om = mti) && (decide (0 = amount) && (decide (0 = ttl))))))))))) ∧ Below w.heap.size w w' := by
  have HQ := Lib.hid (fun V => requestOf_free  acct other hold trace mti amount ttl V)
  have HOK := Lib.hid (fun V (hV : Below w.heap.size w V) => holdOkR_any 5 acct trace hold V (hO.below hV) hs1 hs3 hs4)
  have HRO := Lib.hid (fun V (hV : Below w.heap.size w V) => reqOf_free 5 acct trace hold V (hO.below hV))
  rw [hom] at HRO
  generalize (plainB 5 acct trace && idOk hold) = bo at HOK ⊢
  have HM := Lib.hid (meth_free 5 acct trace hold)
  clear hO hs1 hs2 hs3 hs4 hom
  go_enter Tryd.func7, Tryd.ntmps7
  go_upto_region 1 with fail
  obtain ⟨W, hW⟩ : ∃ W, W = w.alloc (.cells #[.int .i64 5, .string acct, .string other, .string hold, .string trace, .string mti, .int .i64 amount, .int .i64 ttl] 26) := ⟨_, rfl⟩
  have b0 : bk W w.heap.size 26 [.int .i64 5, .string acct, .string other, .string hold, .string trace, .string mti, .int .i64 amount, .int .i64 ttl] := by rw [hW]; exact bk.new w _ _
  have HBW : Hid (Below w.heap.size w W) := Lib.hid (by rw [hW]; exact (Below.refl _ _).alloc (Nat.le_refl _) _)
  have z0 := b0.lt
  rw [← hW]
  clear hW
  have B0 := Lib.hid b0
  obtain ⟨⟨p0, p1, p2, p3, p4, p5, p6, p7⟩, -⟩ := b0.eight
  clear b0
  go_wp2_with fail
  refine (HQ.out _).mono ?_
  rintro e w1 ⟨rfl, hb⟩
  have z1 := hb.size
  have B1 := Lib.hid (B0.out.below hb z0)
  have HB1 : Hid (Below w.heap.size w w1) := Lib.hid (HBW.out.trans (hb.mono (by omega)))
  clear hb p0 p1 p2 p3 p4 p5 p6 p7 B0 HBW HQ
  have HBX : Hid (∀ V, Ext w1 V → Below w.heap.size w V) := Lib.hid fun V hV => HB1.out.trans (hV.below.mono (by omega))
  obtain ⟨⟨p0, p1, p2, p3, p4, p5, p6, p7⟩, -⟩ := B1.out.eight
  have P0 := Lib.hid p0
  have P1 := Lib.hid p1
  have P2 := Lib.hid p2
  have P3 := Lib.hid p3
  have P4 := Lib.hid p4
  have P5 := Lib.hid p5
  have P6 := Lib.hid p6
  have P7 := Lib.hid p7
  clear p0 p1 p2 p3 p4 p5 p6 p7
  go_upto_region 2 with fail
  have HX : Hid (Ext w1 w1.drew) := Lib.hid (Ext.refl w1).drew
  cases bo
  all_goals refine quiet_region (C := Ext w1) (by kernel_rfl) (by kernel_rfl) HX.out ?_
  all_goals repeat (first
    | go_big_quiet_skip
    | (go_big_quiet_want; go_big_quiet_op; go_big_quiet_on)
    | (go_big_quiet_want; go_big_quiet_op; apply Exists.intro; refine ⟨fun _ _ => rfl, ?_⟩; go_big_quiet_on)
    | (go_big_quiet_want
       apply Exists.intro
       refine ⟨fun V hV => ?_, ?_⟩
       (have hm := HM.out V
        unfold Oper.quietAt
        go_simp
        go_at_call 48
        refine (HOK.out V (HBX.out V hV)).mono ?_
        rintro e w4 ⟨rfl, hb⟩
        exact ⟨rfl, hV.step hb⟩)
       simp only [Act.put, List.setIfInBounds_toArray, List.set_cons_zero, List.set_cons_succ]
       go_big_quiet_on)
    | (go_big_quiet_want
       apply Exists.intro
       refine ⟨fun V hV => ?_, ?_⟩
       (unfold Oper.quietAt
        go_simp
        go_at_call 17
        refine (HRO.out V (HBX.out V hV)).mono ?_
        rintro e w4 ⟨rfl, hb⟩
        exact ⟨rfl, hV.step hb⟩)
       simp only [Act.put, List.setIfInBounds_toArray, List.set_cons_zero, List.set_cons_succ]
       go_big_quiet_on)
    | (go_big_quiet_want
       apply Exists.intro
       refine ⟨fun V hV => ?_, ?_⟩
       (unfold Oper.quietAt
        go_simp
        simp only [ite_val8]
        exact ⟨trivial, rfl⟩)
       simp only [Act.put, List.setIfInBounds_toArray, List.set_cons_zero, List.set_cons_succ]
       go_big_quiet_on)
    | (go_big_quiet_want
       apply Exists.intro
       refine ⟨fun V hV => ?_, ?_⟩
       (have p0 := hV.cell P0.out (by omega); have p1 := hV.cell P1.out (by omega); have p2 := hV.cell P2.out (by omega); have p3 := hV.cell P3.out (by omega); have p4 := hV.cell P4.out (by omega); have p5 := hV.cell P5.out (by omega); have p6 := hV.cell P6.out (by omega); have p7 := hV.cell P7.out (by omega)
        unfold Oper.quietAt
        go_simp
        rfl)
       simp only [Act.put, List.setIfInBounds_toArray, List.set_cons_zero, List.set_cons_succ]
       go_big_quiet_on)
    | fail)
  all_goals refine wpQuiet_nil ?_
  all_goals intro w2 hw2
  all_goals have HB2 := Lib.hid (HBX.out w2 hw2)
  all_goals go_wp2
  all_goals go_ret
  · exact ⟨rfl, HB2.out⟩
  · exact ⟨congrArg (fun b => Ending.returned (.bool b)) (by first | (simp [str_eq8]; done) | simp [str_nil8, str_eq8]), HB2.out⟩
set_option maxRecDepth 100000 in
set_option maxHeartbeats 8000000 in
theorem implReqOk_amt (op : Int) (hop : op = 2 ∨ op = 3 ∨ op = 4) (acct other hold trace mti om : ByteArray) (amount ttl : Int) (w : World) (hO : opsIn w) (hs1 : acct.size ≤ maxLen) (hs2 : other.size ≤ maxLen) (hs3 : hold.size ≤ maxLen) (hs4 : trace.size ≤ maxLen) (hom : opTxt 0 op = om) :
    Calls Tryd.prog 7 #[.agg #[.int .i64 op, .string acct, .string other, .string hold, .string trace, .string mti, .int .i64 amount, .int .i64 ttl]] w fun e w' => e = .returned (.bool (((plainB op acct trace && idOk hold) && decide (0 ≤ amount ∧ amount ≤ 999999999999)) && (decide (op = op) && (decide (acct = acct) && (decide (⟨#[]⟩ = other) && (decide (hold = hold) && (decide (trace = trace) && (decide (om = mti) && (decide (amount = amount) && (decide (0 = ttl))))))))))) ∧ Below w.heap.size w w' := by
  have HQ := Lib.hid (fun V => requestOf_amt op hop acct other hold trace mti amount ttl V)
  have HOK := Lib.hid (fun V (hV : Below w.heap.size w V) => amtOkR_any op acct trace hold amount V (hO.below hV) hs1 hs3 hs4)
  have HRO := Lib.hid (fun V (hV : Below w.heap.size w V) => reqOf_amt op acct trace hold amount V (hO.below hV))
  rw [hom] at HRO
  generalize ((plainB op acct trace && idOk hold) && decide (0 ≤ amount ∧ amount ≤ 999999999999)) = bo at HOK ⊢
  have HM := Lib.hid (meth_amt op acct trace hold amount)
  clear hO hs1 hs2 hs3 hs4 hom
  go_enter Tryd.func7, Tryd.ntmps7
  go_upto_region 1 with fail
  obtain ⟨W, hW⟩ : ∃ W, W = w.alloc (.cells #[.int .i64 op, .string acct, .string other, .string hold, .string trace, .string mti, .int .i64 amount, .int .i64 ttl] 26) := ⟨_, rfl⟩
  have b0 : bk W w.heap.size 26 [.int .i64 op, .string acct, .string other, .string hold, .string trace, .string mti, .int .i64 amount, .int .i64 ttl] := by rw [hW]; exact bk.new w _ _
  have HBW : Hid (Below w.heap.size w W) := Lib.hid (by rw [hW]; exact (Below.refl _ _).alloc (Nat.le_refl _) _)
  have z0 := b0.lt
  rw [← hW]
  clear hW
  have B0 := Lib.hid b0
  obtain ⟨⟨p0, p1, p2, p3, p4, p5, p6, p7⟩, -⟩ := b0.eight
  clear b0
  go_wp2_with fail
  refine (HQ.out _).mono ?_
  rintro e w1 ⟨rfl, hb⟩
  have z1 := hb.size
  have B1 := Lib.hid (B0.out.below hb z0)
  have HB1 : Hid (Below w.heap.size w w1) := Lib.hid (HBW.out.trans (hb.mono (by omega)))
  clear hb p0 p1 p2 p3 p4 p5 p6 p7 B0 HBW HQ
  have HBX : Hid (∀ V, Ext w1 V → Below w.heap.size w V) := Lib.hid fun V hV => HB1.out.trans (hV.below.mono (by omega))
  obtain ⟨⟨p0, p1, p2, p3, p4, p5, p6, p7⟩, -⟩ := B1.out.eight
  have P0 := Lib.hid p0
  have P1 := Lib.hid p1
  have P2 := Lib.hid p2
  have P3 := Lib.hid p3
  have P4 := Lib.hid p4
  have P5 := Lib.hid p5
  have P6 := Lib.hid p6
  have P7 := Lib.hid p7
  clear p0 p1 p2 p3 p4 p5 p6 p7
  go_upto_region 2 with fail
  have HX : Hid (Ext w1 w1.drew) := Lib.hid (Ext.refl w1).drew
  cases bo
  all_goals refine quiet_region (C := Ext w1) (by kernel_rfl) (by kernel_rfl) HX.out ?_
  all_goals repeat (first
    | go_big_quiet_skip
    | (go_big_quiet_want; go_big_quiet_op; go_big_quiet_on)
    | (go_big_quiet_want; go_big_quiet_op; apply Exists.intro; refine ⟨fun _ _ => rfl, ?_⟩; go_big_quiet_on)
    | (go_big_quiet_want
       apply Exists.intro
       refine ⟨fun V hV => ?_, ?_⟩
       (have hm := HM.out V
        unfold Oper.quietAt
        go_simp
        go_at_call 51
        refine (HOK.out V (HBX.out V hV)).mono ?_
        rintro e w4 ⟨rfl, hb⟩
        exact ⟨rfl, hV.step hb⟩)
       simp only [Act.put, List.setIfInBounds_toArray, List.set_cons_zero, List.set_cons_succ]
       go_big_quiet_on)
    | (go_big_quiet_want
       apply Exists.intro
       refine ⟨fun V hV => ?_, ?_⟩
       (unfold Oper.quietAt
        go_simp
        go_at_call 17
        refine (HRO.out V (HBX.out V hV)).mono ?_
        rintro e w4 ⟨rfl, hb⟩
        exact ⟨rfl, hV.step hb⟩)
       simp only [Act.put, List.setIfInBounds_toArray, List.set_cons_zero, List.set_cons_succ]
       go_big_quiet_on)
    | (go_big_quiet_want
       apply Exists.intro
       refine ⟨fun V hV => ?_, ?_⟩
       (unfold Oper.quietAt
        go_simp
        simp only [ite_val8]
        exact ⟨trivial, rfl⟩)
       simp only [Act.put, List.setIfInBounds_toArray, List.set_cons_zero, List.set_cons_succ]
       go_big_quiet_on)
    | (go_big_quiet_want
       apply Exists.intro
       refine ⟨fun V hV => ?_, ?_⟩
       (have p0 := hV.cell P0.out (by omega); have p1 := hV.cell P1.out (by omega); have p2 := hV.cell P2.out (by omega); have p3 := hV.cell P3.out (by omega); have p4 := hV.cell P4.out (by omega); have p5 := hV.cell P5.out (by omega); have p6 := hV.cell P6.out (by omega); have p7 := hV.cell P7.out (by omega)
        unfold Oper.quietAt
        go_simp
        rfl)
       simp only [Act.put, List.setIfInBounds_toArray, List.set_cons_zero, List.set_cons_succ]
       go_big_quiet_on)
    | fail)
  all_goals refine wpQuiet_nil ?_
  all_goals intro w2 hw2
  all_goals have HB2 := Lib.hid (HBX.out w2 hw2)
  all_goals go_wp2
  all_goals go_ret
  · exact ⟨rfl, HB2.out⟩
  · exact ⟨congrArg (fun b => Ending.returned (.bool b)) (by first | (simp [str_eq8]; done) | simp [str_nil8, str_eq8]), HB2.out⟩
set_option maxRecDepth 100000 in
set_option maxHeartbeats 8000000 in
theorem implReqOk_auth (acct other hold trace mti om : ByteArray) (amount ttl : Int) (w : World) (hO : opsIn w) (hs1 : acct.size ≤ maxLen) (hs2 : other.size ≤ maxLen) (hs3 : hold.size ≤ maxLen) (hs4 : trace.size ≤ maxLen) (hom : opTxt 0 1 = om) :
    Calls Tryd.prog 7 #[.agg #[.int .i64 1, .string acct, .string other, .string hold, .string trace, .string mti, .int .i64 amount, .int .i64 ttl]] w fun e w' => e = .returned (.bool ((((plainB 1 acct trace && idOk hold) && decide (0 ≤ amount ∧ amount ≤ 999999999999)) && decide (0 ≤ ttl ∧ ttl ≤ 9999)) && (decide (1 = 1) && (decide (acct = acct) && (decide (⟨#[]⟩ = other) && (decide (hold = hold) && (decide (trace = trace) && (decide (om = mti) && (decide (amount = amount) && (decide (ttl = ttl))))))))))) ∧ Below w.heap.size w w' := by
  have HQ := Lib.hid (fun V => requestOf_auth  acct other hold trace mti amount ttl V)
  have HOK := Lib.hid (fun V (hV : Below w.heap.size w V) => authOkR_any 1 acct trace hold amount ttl V (hO.below hV) hs1 hs3 hs4)
  have HRO := Lib.hid (fun V (hV : Below w.heap.size w V) => reqOf_auth 1 acct trace hold amount ttl V (hO.below hV))
  rw [hom] at HRO
  generalize (((plainB 1 acct trace && idOk hold) && decide (0 ≤ amount ∧ amount ≤ 999999999999)) && decide (0 ≤ ttl ∧ ttl ≤ 9999)) = bo at HOK ⊢
  have HM := Lib.hid (meth_auth 1 acct trace hold amount ttl)
  clear hO hs1 hs2 hs3 hs4 hom
  go_enter Tryd.func7, Tryd.ntmps7
  go_upto_region 1 with fail
  obtain ⟨W, hW⟩ : ∃ W, W = w.alloc (.cells #[.int .i64 1, .string acct, .string other, .string hold, .string trace, .string mti, .int .i64 amount, .int .i64 ttl] 26) := ⟨_, rfl⟩
  have b0 : bk W w.heap.size 26 [.int .i64 1, .string acct, .string other, .string hold, .string trace, .string mti, .int .i64 amount, .int .i64 ttl] := by rw [hW]; exact bk.new w _ _
  have HBW : Hid (Below w.heap.size w W) := Lib.hid (by rw [hW]; exact (Below.refl _ _).alloc (Nat.le_refl _) _)
  have z0 := b0.lt
  rw [← hW]
  clear hW
  have B0 := Lib.hid b0
  obtain ⟨⟨p0, p1, p2, p3, p4, p5, p6, p7⟩, -⟩ := b0.eight
  clear b0
  go_wp2_with fail
  refine (HQ.out _).mono ?_
  rintro e w1 ⟨rfl, hb⟩
  have z1 := hb.size
  have B1 := Lib.hid (B0.out.below hb z0)
  have HB1 : Hid (Below w.heap.size w w1) := Lib.hid (HBW.out.trans (hb.mono (by omega)))
  clear hb p0 p1 p2 p3 p4 p5 p6 p7 B0 HBW HQ
  have HBX : Hid (∀ V, Ext w1 V → Below w.heap.size w V) := Lib.hid fun V hV => HB1.out.trans (hV.below.mono (by omega))
  obtain ⟨⟨p0, p1, p2, p3, p4, p5, p6, p7⟩, -⟩ := B1.out.eight
  have P0 := Lib.hid p0
  have P1 := Lib.hid p1
  have P2 := Lib.hid p2
  have P3 := Lib.hid p3
  have P4 := Lib.hid p4
  have P5 := Lib.hid p5
  have P6 := Lib.hid p6
  have P7 := Lib.hid p7
  clear p0 p1 p2 p3 p4 p5 p6 p7
  go_upto_region 2 with fail
  have HX : Hid (Ext w1 w1.drew) := Lib.hid (Ext.refl w1).drew
  cases bo
  all_goals refine quiet_region (C := Ext w1) (by kernel_rfl) (by kernel_rfl) HX.out ?_
  all_goals repeat (first
    | go_big_quiet_skip
    | (go_big_quiet_want; go_big_quiet_op; go_big_quiet_on)
    | (go_big_quiet_want; go_big_quiet_op; apply Exists.intro; refine ⟨fun _ _ => rfl, ?_⟩; go_big_quiet_on)
    | (go_big_quiet_want
       apply Exists.intro
       refine ⟨fun V hV => ?_, ?_⟩
       (have hm := HM.out V
        unfold Oper.quietAt
        go_simp
        go_at_call 53
        refine (HOK.out V (HBX.out V hV)).mono ?_
        rintro e w4 ⟨rfl, hb⟩
        exact ⟨rfl, hV.step hb⟩)
       simp only [Act.put, List.setIfInBounds_toArray, List.set_cons_zero, List.set_cons_succ]
       go_big_quiet_on)
    | (go_big_quiet_want
       apply Exists.intro
       refine ⟨fun V hV => ?_, ?_⟩
       (unfold Oper.quietAt
        go_simp
        go_at_call 17
        refine (HRO.out V (HBX.out V hV)).mono ?_
        rintro e w4 ⟨rfl, hb⟩
        exact ⟨rfl, hV.step hb⟩)
       simp only [Act.put, List.setIfInBounds_toArray, List.set_cons_zero, List.set_cons_succ]
       go_big_quiet_on)
    | (go_big_quiet_want
       apply Exists.intro
       refine ⟨fun V hV => ?_, ?_⟩
       (unfold Oper.quietAt
        go_simp
        simp only [ite_val8]
        exact ⟨trivial, rfl⟩)
       simp only [Act.put, List.setIfInBounds_toArray, List.set_cons_zero, List.set_cons_succ]
       go_big_quiet_on)
    | (go_big_quiet_want
       apply Exists.intro
       refine ⟨fun V hV => ?_, ?_⟩
       (have p0 := hV.cell P0.out (by omega); have p1 := hV.cell P1.out (by omega); have p2 := hV.cell P2.out (by omega); have p3 := hV.cell P3.out (by omega); have p4 := hV.cell P4.out (by omega); have p5 := hV.cell P5.out (by omega); have p6 := hV.cell P6.out (by omega); have p7 := hV.cell P7.out (by omega)
        unfold Oper.quietAt
        go_simp
        rfl)
       simp only [Act.put, List.setIfInBounds_toArray, List.set_cons_zero, List.set_cons_succ]
       go_big_quiet_on)
    | fail)
  all_goals refine wpQuiet_nil ?_
  all_goals intro w2 hw2
  all_goals have HB2 := Lib.hid (HBX.out w2 hw2)
  all_goals go_wp2
  all_goals go_ret
  · exact ⟨rfl, HB2.out⟩
  · exact ⟨congrArg (fun b => Ending.returned (.bool b)) (by first | (simp [str_eq8]; done) | simp [str_nil8, str_eq8]), HB2.out⟩
set_option maxRecDepth 100000 in
set_option maxHeartbeats 8000000 in
theorem implReqOk_move (acct other hold trace mti om : ByteArray) (amount ttl : Int) (w : World) (hO : opsIn w) (hs1 : acct.size ≤ maxLen) (hs2 : other.size ≤ maxLen) (hs3 : hold.size ≤ maxLen) (hs4 : trace.size ≤ maxLen) (hom : opTxt 0 6 = om) :
    Calls Tryd.prog 7 #[.agg #[.int .i64 6, .string acct, .string other, .string hold, .string trace, .string mti, .int .i64 amount, .int .i64 ttl]] w fun e w' => e = .returned (.bool (((plainB 6 acct trace && idOk hold) && acctIdB other) && (decide (6 = 6) && (decide (acct = acct) && (decide (other = other) && (decide (hold = hold) && (decide (trace = trace) && (decide (om = mti) && (decide (0 = amount) && (decide (0 = ttl))))))))))) ∧ Below w.heap.size w w' := by
  have HQ := Lib.hid (fun V => requestOf_move  acct other hold trace mti amount ttl V)
  have HOK := Lib.hid (fun V (hV : Below w.heap.size w V) => moveOkR_any 6 acct trace hold other V (hO.below hV) hs1 hs3 hs4 hs2)
  have HRO := Lib.hid (fun V (hV : Below w.heap.size w V) => reqOf_move 6 acct trace hold other V (hO.below hV))
  rw [hom] at HRO
  generalize ((plainB 6 acct trace && idOk hold) && acctIdB other) = bo at HOK ⊢
  have HM := Lib.hid (meth_move 6 acct trace hold other)
  clear hO hs1 hs2 hs3 hs4 hom
  go_enter Tryd.func7, Tryd.ntmps7
  go_upto_region 1 with fail
  obtain ⟨W, hW⟩ : ∃ W, W = w.alloc (.cells #[.int .i64 6, .string acct, .string other, .string hold, .string trace, .string mti, .int .i64 amount, .int .i64 ttl] 26) := ⟨_, rfl⟩
  have b0 : bk W w.heap.size 26 [.int .i64 6, .string acct, .string other, .string hold, .string trace, .string mti, .int .i64 amount, .int .i64 ttl] := by rw [hW]; exact bk.new w _ _
  have HBW : Hid (Below w.heap.size w W) := Lib.hid (by rw [hW]; exact (Below.refl _ _).alloc (Nat.le_refl _) _)
  have z0 := b0.lt
  rw [← hW]
  clear hW
  have B0 := Lib.hid b0
  obtain ⟨⟨p0, p1, p2, p3, p4, p5, p6, p7⟩, -⟩ := b0.eight
  clear b0
  go_wp2_with fail
  refine (HQ.out _).mono ?_
  rintro e w1 ⟨rfl, hb⟩
  have z1 := hb.size
  have B1 := Lib.hid (B0.out.below hb z0)
  have HB1 : Hid (Below w.heap.size w w1) := Lib.hid (HBW.out.trans (hb.mono (by omega)))
  clear hb p0 p1 p2 p3 p4 p5 p6 p7 B0 HBW HQ
  have HBX : Hid (∀ V, Ext w1 V → Below w.heap.size w V) := Lib.hid fun V hV => HB1.out.trans (hV.below.mono (by omega))
  obtain ⟨⟨p0, p1, p2, p3, p4, p5, p6, p7⟩, -⟩ := B1.out.eight
  have P0 := Lib.hid p0
  have P1 := Lib.hid p1
  have P2 := Lib.hid p2
  have P3 := Lib.hid p3
  have P4 := Lib.hid p4
  have P5 := Lib.hid p5
  have P6 := Lib.hid p6
  have P7 := Lib.hid p7
  clear p0 p1 p2 p3 p4 p5 p6 p7
  go_upto_region 2 with fail
  have HX : Hid (Ext w1 w1.drew) := Lib.hid (Ext.refl w1).drew
  cases bo
  all_goals refine quiet_region (C := Ext w1) (by kernel_rfl) (by kernel_rfl) HX.out ?_
  all_goals repeat (first
    | go_big_quiet_skip
    | (go_big_quiet_want; go_big_quiet_op; go_big_quiet_on)
    | (go_big_quiet_want; go_big_quiet_op; apply Exists.intro; refine ⟨fun _ _ => rfl, ?_⟩; go_big_quiet_on)
    | (go_big_quiet_want
       apply Exists.intro
       refine ⟨fun V hV => ?_, ?_⟩
       (have hm := HM.out V
        unfold Oper.quietAt
        go_simp
        go_at_call 55
        refine (HOK.out V (HBX.out V hV)).mono ?_
        rintro e w4 ⟨rfl, hb⟩
        exact ⟨rfl, hV.step hb⟩)
       simp only [Act.put, List.setIfInBounds_toArray, List.set_cons_zero, List.set_cons_succ]
       go_big_quiet_on)
    | (go_big_quiet_want
       apply Exists.intro
       refine ⟨fun V hV => ?_, ?_⟩
       (unfold Oper.quietAt
        go_simp
        go_at_call 17
        refine (HRO.out V (HBX.out V hV)).mono ?_
        rintro e w4 ⟨rfl, hb⟩
        exact ⟨rfl, hV.step hb⟩)
       simp only [Act.put, List.setIfInBounds_toArray, List.set_cons_zero, List.set_cons_succ]
       go_big_quiet_on)
    | (go_big_quiet_want
       apply Exists.intro
       refine ⟨fun V hV => ?_, ?_⟩
       (unfold Oper.quietAt
        go_simp
        simp only [ite_val8]
        exact ⟨trivial, rfl⟩)
       simp only [Act.put, List.setIfInBounds_toArray, List.set_cons_zero, List.set_cons_succ]
       go_big_quiet_on)
    | (go_big_quiet_want
       apply Exists.intro
       refine ⟨fun V hV => ?_, ?_⟩
       (have p0 := hV.cell P0.out (by omega); have p1 := hV.cell P1.out (by omega); have p2 := hV.cell P2.out (by omega); have p3 := hV.cell P3.out (by omega); have p4 := hV.cell P4.out (by omega); have p5 := hV.cell P5.out (by omega); have p6 := hV.cell P6.out (by omega); have p7 := hV.cell P7.out (by omega)
        unfold Oper.quietAt
        go_simp
        rfl)
       simp only [Act.put, List.setIfInBounds_toArray, List.set_cons_zero, List.set_cons_succ]
       go_big_quiet_on)
    | fail)
  all_goals refine wpQuiet_nil ?_
  all_goals intro w2 hw2
  all_goals have HB2 := Lib.hid (HBX.out w2 hw2)
  all_goals go_wp2
  all_goals go_ret
  · exact ⟨rfl, HB2.out⟩
  · exact ⟨congrArg (fun b => Ending.returned (.bool b)) (by first | (simp [str_eq8]; done) | simp [str_nil8, str_eq8]), HB2.out⟩
end Go.Proofs.YtmojpiofdfmdgabDoor
set_option linter.unusedVariables false
namespace Go.Proofs.YtmojpiofdfmdgabDoor
open Go.ChangeShapes Go.WideShapes Go.ChangeAt Go.RowKit

set_option maxRecDepth 100000 in
theorem reqOk_split (q : ReqD) (b : Bool) (h : (b = true) ↔ (reqOk q = true)) : b = reqOk q := by
  cases b <;> cases hq : reqOk q <;> simp_all
set_option maxRecDepth 100000 in
theorem reqOk_iff (q : ReqD) : reqOk q = true ↔ (isOp q.op = true ∧ q.mti = opTxt 0 q.op ∧ acctIdB q.acct = true ∧ trB q.trace = true) ∧ restB q = true := by
  simp [reqOk, headB, Bool.and_eq_true, decide_eq_true_eq]
set_option maxRecDepth 100000 in
theorem implReqOk_any (q : ReqD) (w : World) (hO : opsIn w) (hq : qBig q) : Calls Tryd.prog 7 #[qV q] w fun e w' => e = .returned (.bool (reqOk q)) ∧ Below w.heap.size w w' := by
  obtain ⟨z1, z2, z3, z4, z5⟩ := hq
  obtain ⟨op, acct, other, hold, trace, mti, amount, ttl⟩ := q
  simp only at z1 z2 z3 z4 z5
  have hc : (op < 1 ∨ 6 < op) ∨ op = 1 ∨ (op = 2 ∨ op = 3 ∨ op = 4) ∨ op = 5 ∨ op = 6 := by omega
  rcases hc with hc | rfl | hc | rfl | rfl
  · refine (implReqOk_plain op hc acct other hold trace mti _ amount ttl w hO z1 z2 z3 z4 rfl).mono fun e w' ⟨he, hb⟩ => ⟨he.trans (congrArg (fun b => Ending.returned (.bool b)) (reqOk_split _ _ ?_)), hb⟩
    rw [reqOk_iff]
    have e1 : holdU op = false := by simp [holdU, isOp]; omega
    have e2 : amtU op = false := by simp [amtU]; omega
    have e3 : decide (op = 1) = false := decide_eq_false (by omega)
    have e4 : decide (op = 6) = false := decide_eq_false (by omega)
    simp only [restB, e1, e2, e3, e4, holdP, amtP, ttlP, othP, plainB, Bool.and_eq_true, decide_eq_true_eq, if_false, Bool.false_eq_true]
    constructor
    · rintro ⟨⟨h1, h2, h3⟩, -, -, h4, h5, -, h6, h7, h8⟩; exact ⟨⟨h1, h6.symm, h2, h3⟩, h5.symm, h7.symm, h8.symm, h4.symm⟩
    · rintro ⟨⟨h1, h6, h2, h3⟩, h5, h7, h8, h4⟩; exact ⟨⟨h1, h2, h3⟩, trivial, trivial, h4.symm, h5.symm, trivial, h6.symm, h7.symm, h8.symm⟩
  · refine (implReqOk_auth acct other hold trace mti _ amount ttl w hO z1 z2 z3 z4 rfl).mono fun e w' ⟨he, hb⟩ => ⟨he.trans (congrArg (fun b => Ending.returned (.bool b)) (reqOk_split _ _ ?_)), hb⟩
    rw [reqOk_iff]
    simp only [restB, show holdU 1 = true by decide, show amtU 1 = true by decide, holdP, amtP, ttlP, othP, plainB, Bool.and_eq_true, decide_eq_true_eq, if_true, show decide ((1 : Int) = 6) = false by decide, if_false, Bool.false_eq_true]
    constructor
    · rintro ⟨⟨⟨⟨⟨h1, h2, h3⟩, h4⟩, h5⟩, h6⟩, -, -, h7, -, -, h8, -, -⟩; exact ⟨⟨h1, h8.symm, h2, h3⟩, h4, h5, h6, h7.symm⟩
    · rintro ⟨⟨h1, h8, h2, h3⟩, h4, h5, h6, h7⟩; exact ⟨⟨⟨⟨⟨h1, h2, h3⟩, h4⟩, h5⟩, h6⟩, trivial, trivial, h7.symm, trivial, trivial, h8.symm, trivial, trivial⟩
  · refine (implReqOk_amt op hc acct other hold trace mti _ amount ttl w hO z1 z2 z3 z4 rfl).mono fun e w' ⟨he, hb⟩ => ⟨he.trans (congrArg (fun b => Ending.returned (.bool b)) (reqOk_split _ _ ?_)), hb⟩
    rw [reqOk_iff]
    have e1 : holdU op = true := by simp [holdU, isOp]; omega
    have e2 : amtU op = true := by simp [amtU]; omega
    have e3 : decide (op = 1) = false := decide_eq_false (by omega)
    have e4 : decide (op = 6) = false := decide_eq_false (by omega)
    simp only [restB, e1, e2, e3, e4, holdP, amtP, ttlP, othP, plainB, Bool.and_eq_true, decide_eq_true_eq, if_true, if_false, Bool.false_eq_true]
    constructor
    · rintro ⟨⟨⟨⟨h1, h2, h3⟩, h4⟩, h5⟩, -, -, h7, -, -, h8, -, h9⟩; exact ⟨⟨h1, h8.symm, h2, h3⟩, h4, h5, h9.symm, h7.symm⟩
    · rintro ⟨⟨h1, h8, h2, h3⟩, h4, h5, h9, h7⟩; exact ⟨⟨⟨⟨h1, h2, h3⟩, h4⟩, h5⟩, trivial, trivial, h7.symm, trivial, trivial, h8.symm, trivial, h9.symm⟩
  · refine (implReqOk_free acct other hold trace mti _ amount ttl w hO z1 z2 z3 z4 rfl).mono fun e w' ⟨he, hb⟩ => ⟨he.trans (congrArg (fun b => Ending.returned (.bool b)) (reqOk_split _ _ ?_)), hb⟩
    rw [reqOk_iff]
    simp only [restB, show holdU 5 = true by decide, show amtU 5 = false by decide, holdP, amtP, ttlP, othP, plainB, Bool.and_eq_true, decide_eq_true_eq, if_true, show decide ((5 : Int) = 1) = false by decide, show decide ((5 : Int) = 6) = false by decide, if_false, Bool.false_eq_true]
    constructor
    · rintro ⟨⟨⟨h1, h2, h3⟩, h4⟩, -, -, h7, -, -, h8, h5, h9⟩; exact ⟨⟨h1, h8.symm, h2, h3⟩, h4, h5.symm, h9.symm, h7.symm⟩
    · rintro ⟨⟨h1, h8, h2, h3⟩, h4, h5, h9, h7⟩; exact ⟨⟨⟨h1, h2, h3⟩, h4⟩, trivial, trivial, h7.symm, trivial, trivial, h8.symm, h5.symm, h9.symm⟩
  · refine (implReqOk_move acct other hold trace mti _ amount ttl w hO z1 z2 z3 z4 rfl).mono fun e w' ⟨he, hb⟩ => ⟨he.trans (congrArg (fun b => Ending.returned (.bool b)) (reqOk_split _ _ ?_)), hb⟩
    rw [reqOk_iff]
    simp only [restB, show holdU 6 = true by decide, show amtU 6 = false by decide, holdP, amtP, ttlP, othP, plainB, Bool.and_eq_true, decide_eq_true_eq, if_true, show decide ((6 : Int) = 1) = false by decide, if_false, Bool.false_eq_true]
    constructor
    · rintro ⟨⟨⟨⟨h1, h2, h3⟩, h4⟩, h7⟩, -, -, -, -, -, h8, h5, h9⟩; exact ⟨⟨h1, h8.symm, h2, h3⟩, h4, h5.symm, h9.symm, h7⟩
    · rintro ⟨⟨h1, h8, h2, h3⟩, h4, h5, h9, h7⟩; exact ⟨⟨⟨⟨h1, h2, h3⟩, h4⟩, h7⟩, trivial, trivial, trivial, trivial, trivial, h8.symm, h5.symm, h9.symm⟩
end Go.Proofs.YtmojpiofdfmdgabDoor
