/- ReqOk of the program, by the operation's class; the table of operations lies as Go's text lays it. -/
import Derived.Test.YtmojpiofdfmdgabGreatDoorMrgReqM
import Derived.Laws.StructEq
set_option linter.unusedVariables false
namespace Go.Proofs.YtmojpiofdfmdgabGreatDoor
open Go.ChangeShapes Go.WideShapes Go.ChangeAt Go.RowKit

set_option maxRecDepth 100000 in
theorem str_beq8 (a b : ByteArray) : (a.toList == b.toList) = decide (a = b) := by
  by_cases h : a = b
  · subst h; simp
  · rw [decide_eq_false h]; exact str_no h
set_option maxRecDepth 100000 in
theorem str_nil8 (a : ByteArray) : (a.toList = []) ↔ ((⟨#[]⟩ : ByteArray) = a) := by
  have h := str_beq8 a ⟨#[]⟩
  constructor
  · intro e
    have : (a.toList == (⟨#[]⟩ : ByteArray).toList) = true := by rw [e]; decide +kernel
    rw [h] at this
    exact (of_decide_eq_true this).symm
  · rintro rfl
    decide +kernel
set_option maxRecDepth 100000 in
theorem str_eq8 (a b : ByteArray) : (a.toList = b.toList) ↔ (a = b) := by
  have h := str_beq8 a b
  constructor
  · intro e
    have : (a.toList == b.toList) = true := by rw [e]; simp
    rw [h] at this
    exact of_decide_eq_true this
  · rintro rfl
    rfl
set_option maxRecDepth 100000 in
theorem ite_val8 (c : Prop) [Decidable c] (x : Bool) (w : World) : (if c then (Result.ok (Next.value (Value.bool x)) w : Result Next) else .ok (.value (.bool false)) w) = .ok (.value (.bool (decide c && x))) w := by
  by_cases h : c <;> simp [h]
set_option maxRecDepth 100000 in
theorem reqUnder : Tryz.prog.underlying 27 = some (.struct (Tryz.prog.fieldsOf 27)) := by kernel_rfl
set_option maxRecDepth 100000 in
theorem reqFields : (Tryz.prog.fieldsOf 27).toList.map (fun f => (f.type, f.offset, decide (f.name ≠ "_"))) = [(3, 0, true), (9, 1, true), (9, 2, true), (9, 3, true), (9, 4, true), (9, 5, true), (3, 6, true), (3, 7, true)] := by kernel_rfl

set_option maxRecDepth 100000 in
theorem meth_plain (op : Int) (acct trace : ByteArray) (w : World) : (method 316 81 (.agg #[.int .i64 op, .string acct, .string trace]) "loop.example/g00735/impl.ok").run Tryz.prog w = .ok (180, .agg #[.int .i64 op, .string acct, .string trace]) w := by kernel_rfl
set_option maxRecDepth 100000 in
theorem meth_free (op : Int) (acct trace hold : ByteArray) (w : World) : (method 316 83 (.agg #[.int .i64 op, .string acct, .string trace, .string hold]) "loop.example/g00735/impl.ok").run Tryz.prog w = .ok (189, .agg #[.int .i64 op, .string acct, .string trace, .string hold]) w := by kernel_rfl
set_option maxRecDepth 100000 in
theorem meth_amt (op : Int) (acct trace hold : ByteArray) (amount : Int) (w : World) : (method 316 85 (.agg #[.int .i64 op, .string acct, .string trace, .string hold, .int .i64 amount]) "loop.example/g00735/impl.ok").run Tryz.prog w = .ok (193, .agg #[.int .i64 op, .string acct, .string trace, .string hold, .int .i64 amount]) w := by kernel_rfl
set_option maxRecDepth 100000 in
theorem meth_auth (op : Int) (acct trace hold : ByteArray) (amount : Int) (ttl : Int) (w : World) : (method 316 87 (.agg #[.int .i64 op, .string acct, .string trace, .string hold, .int .i64 amount, .int .i64 ttl]) "loop.example/g00735/impl.ok").run Tryz.prog w = .ok (196, .agg #[.int .i64 op, .string acct, .string trace, .string hold, .int .i64 amount, .int .i64 ttl]) w := by kernel_rfl
set_option maxRecDepth 100000 in
theorem meth_move (op : Int) (acct trace hold other : ByteArray) (w : World) : (method 316 89 (.agg #[.int .i64 op, .string acct, .string trace, .string hold, .string other]) "loop.example/g00735/impl.ok").run Tryz.prog w = .ok (198, .agg #[.int .i64 op, .string acct, .string trace, .string hold, .string other]) w := by kernel_rfl
set_option maxRecDepth 100000 in
set_option maxHeartbeats 8000000 in
theorem implReqOk_plain (op : Int) (hop : op < 1 ∨ 6 < op) (acct other hold trace mti om : ByteArray) (amount ttl : Int) (w : World) (hO : opsIn w) (hs1 : acct.size ≤ maxLen) (hs2 : other.size ≤ maxLen) (hs3 : hold.size ≤ maxLen) (hs4 : trace.size ≤ maxLen) (hom : opTxt 0 op = om) :
    Calls Tryz.prog 37 #[.agg #[.int .i64 op, .string acct, .string other, .string hold, .string trace, .string mti, .int .i64 amount, .int .i64 ttl]] w fun e w' => e = .returned (.bool ((plainB op acct trace) && (decide (op = op) && (decide (acct = acct) && (decide (⟨#[]⟩ = other) && (decide (⟨#[]⟩ = hold) && (decide (trace = trace) && (decide (om = mti) && (decide (0 = amount) && (decide (0 = ttl))))))))))) ∧ Below w.heap.size w w' := by
  have HQ := Lib.hid (fun V => requestOf_plain op hop acct other hold trace mti amount ttl V)
  have HOK := Lib.hid (fun V (hV : Below w.heap.size w V) => plainOk_any op acct trace V (hO.below hV) hs1 hs4)
  have HRO := Lib.hid (fun V (hV : Below w.heap.size w V) => reqOf_plain op acct trace V (hO.below hV))
  rw [hom] at HRO
  generalize (plainB op acct trace) = bo at HOK ⊢
  have HM := Lib.hid (meth_plain op acct trace)
  clear hO hs1 hs2 hs3 hs4 hom
  go_enter Tryz.func37, Tryz.ntmps37
  go_upto_region 1 with fail
  obtain ⟨W, hW⟩ : ∃ W, W = w.alloc (.cells #[.int .i64 op, .string acct, .string other, .string hold, .string trace, .string mti, .int .i64 amount, .int .i64 ttl] 27) := ⟨_, rfl⟩
  have b0 : bk W w.heap.size 27 [.int .i64 op, .string acct, .string other, .string hold, .string trace, .string mti, .int .i64 amount, .int .i64 ttl] := by rw [hW]; exact bk.new w _ _
  have HBW : Hid (Below w.heap.size w W) := Lib.hid (by rw [hW]; exact (Below.refl _ _).alloc (Nat.le_refl _) _)
  have z0 := b0.lt
  rw [← hW]
  clear hW
  have B0 := Lib.hid b0
  obtain ⟨⟨p0, p1, p2, p3, p4, p5, p6, p7⟩, -⟩ := b0.eight
  clear b0
  go_wp2_with fail
  refine (HQ.out _).mono ?_
  rintro e w1 ⟨rfl, hb⟩
  have z1 := hb.size
  have B1 := Lib.hid (B0.out.below hb z0)
  have HB1 : Hid (Below w.heap.size w w1) := Lib.hid (HBW.out.trans (hb.mono (by omega)))
  clear hb p0 p1 p2 p3 p4 p5 p6 p7 B0 HBW HQ
  have HBX : Hid (∀ V, Ext w1 V → Below w.heap.size w V) := Lib.hid fun V hV => HB1.out.trans (hV.below.mono (by omega))
  obtain ⟨⟨p0, p1, p2, p3, p4, p5, p6, p7⟩, -⟩ := B1.out.eight
  have P0 := Lib.hid p0
  have P1 := Lib.hid p1
  have P2 := Lib.hid p2
  have P3 := Lib.hid p3
  have P4 := Lib.hid p4
  have P5 := Lib.hid p5
  have P6 := Lib.hid p6
  have P7 := Lib.hid p7
  clear p0 p1 p2 p3 p4 p5 p6 p7
  go_upto_region 2 with fail
  have HX : Hid (Ext w1 w1.drew) := Lib.hid (Ext.refl w1).drew
  cases bo
  all_goals refine quiet_region (C := Ext w1) (by kernel_rfl) (by kernel_rfl) HX.out ?_
  all_goals repeat (first
    | go_big_quiet_skip
    | (go_big_quiet_want; go_big_quiet_op; go_big_quiet_on)
    | (go_big_quiet_want; go_big_quiet_op; apply Exists.intro; refine ⟨fun _ _ => rfl, ?_⟩; go_big_quiet_on)
    | (go_big_quiet_want
       apply Exists.intro
       refine ⟨fun V hV => ?_, ?_⟩
       (have hm := HM.out V
        unfold Oper.quietAt
        go_simp
        go_at_call 180
        refine (HOK.out V (HBX.out V hV)).mono ?_
        rintro e w4 ⟨rfl, hb⟩
        exact ⟨rfl, hV.step hb⟩)
       simp only [Act.put, List.setIfInBounds_toArray, List.set_cons_zero, List.set_cons_succ]
       go_big_quiet_on)
    | (go_big_quiet_want
       apply Exists.intro
       refine ⟨fun V hV => ?_, ?_⟩
       (unfold Oper.quietAt
        go_simp
        go_at_call 31
        refine (HRO.out V (HBX.out V hV)).mono ?_
        rintro e w4 ⟨rfl, hb⟩
        exact ⟨rfl, hV.step hb⟩)
       simp only [Act.put, List.setIfInBounds_toArray, List.set_cons_zero, List.set_cons_succ]
       go_big_quiet_on)
    | (go_big_quiet_want
       apply Exists.intro
       refine ⟨fun V hV => ?_, ?_⟩
       (unfold Oper.quietAt
        go_simp
        simp only [ite_val8]
        exact ⟨trivial, rfl⟩)
       simp only [Act.put, List.setIfInBounds_toArray, List.set_cons_zero, List.set_cons_succ]
       go_big_quiet_on)
    | (go_big_quiet_want
       apply Exists.intro
       refine ⟨fun V hV => ?_, ?_⟩
       (have p0 := hV.cell P0.out (by omega); have p1 := hV.cell P1.out (by omega); have p2 := hV.cell P2.out (by omega); have p3 := hV.cell P3.out (by omega); have p4 := hV.cell P4.out (by omega); have p5 := hV.cell P5.out (by omega); have p6 := hV.cell P6.out (by omega); have p7 := hV.cell P7.out (by omega)
        unfold Oper.quietAt
        go_simp
        rfl)
       simp only [Act.put, List.setIfInBounds_toArray, List.set_cons_zero, List.set_cons_succ]
       go_big_quiet_on)
    | fail)
  all_goals refine wpQuiet_nil ?_
  all_goals intro w2 hw2
  all_goals have HB2 := Lib.hid (HBX.out w2 hw2)
  all_goals go_wp2
  all_goals go_ret
  · exact ⟨rfl, HB2.out⟩
  · exact ⟨congrArg (fun b => Ending.returned (.bool b)) (by first | (simp [str_eq8]; done) | simp [str_nil8, str_eq8]), HB2.out⟩
set_option maxRecDepth 100000 in
set_option maxHeartbeats 8000000 in
theorem implReqOk_free (acct other hold trace mti om : ByteArray) (amount ttl : Int) (w : World) (hO : opsIn w) (hs1 : acct.size ≤ maxLen) (hs2 : other.size ≤ maxLen) (hs3 : hold.size ≤ maxLen) (hs4 : trace.size ≤ maxLen) (hom : opTxt 0 5 = om) :
    Calls Tryz.prog 37 #[.agg #[.int .i64 5, .string acct, .string other, .string hold, .string trace, .string mti, .int .i64 amount, .int .i64 ttl]] w fun e w' => e = .returned (.bool ((plainB 5 acct trace && idOk hold) && (decide (5 = 5) && (decide (acct = acct) && (decide (⟨#[]⟩ = other) && (decide (hold = hold) && (decide (trace = trace) && (decide (om = mti) && (decide (0 = amount) && (decide (0 = ttl))))))))))) ∧ Below w.heap.size w w' := by
  have HQ := Lib.hid (fun V => requestOf_free  acct other hold trace mti amount ttl V)
  have HOK := Lib.hid (fun V (hV : Below w.heap.size w V) => holdOkR_any 5 acct trace hold V (hO.below hV) hs1 hs3 hs4)
  have HRO := Lib.hid (fun V (hV : Below w.heap.size w V) => reqOf_free 5 acct trace hold V (hO.below hV))
  rw [hom] at HRO
  generalize (plainB 5 acct trace && idOk hold) = bo at HOK ⊢
  have HM := Lib.hid (meth_free 5 acct trace hold)
  clear hO hs1 hs2 hs3 hs4 hom
  go_enter Tryz.func37, Tryz.ntmps37
  go_upto_region 1 with fail
  obtain ⟨W, hW⟩ : ∃ W, W = w.alloc (.cells #[.int .i64 5, .string acct, .string other, .string hold, .string trace, .string mti, .int .i64 amount, .int .i64 ttl] 27) := ⟨_, rfl⟩
  have b0 : bk W w.heap.size 27 [.int .i64 5, .string acct, .string other, .string hold, .string trace, .string mti, .int .i64 amount, .int .i64 ttl] := by rw [hW]; exact bk.new w _ _
  have HBW : Hid (Below w.heap.size w W) := Lib.hid (by rw [hW]; exact (Below.refl _ _).alloc (Nat.le_refl _) _)
  have z0 := b0.lt
  rw [← hW]
  clear hW
  have B0 := Lib.hid b0
  obtain ⟨⟨p0, p1, p2, p3, p4, p5, p6, p7⟩, -⟩ := b0.eight
  clear b0
  go_wp2_with fail
  refine (HQ.out _).mono ?_
  rintro e w1 ⟨rfl, hb⟩
  have z1 := hb.size
  have B1 := Lib.hid (B0.out.below hb z0)
  have HB1 : Hid (Below w.heap.size w w1) := Lib.hid (HBW.out.trans (hb.mono (by omega)))
  clear hb p0 p1 p2 p3 p4 p5 p6 p7 B0 HBW HQ
  have HBX : Hid (∀ V, Ext w1 V → Below w.heap.size w V) := Lib.hid fun V hV => HB1.out.trans (hV.below.mono (by omega))
  obtain ⟨⟨p0, p1, p2, p3, p4, p5, p6, p7⟩, -⟩ := B1.out.eight
  have P0 := Lib.hid p0
  have P1 := Lib.hid p1
  have P2 := Lib.hid p2
  have P3 := Lib.hid p3
  have P4 := Lib.hid p4
  have P5 := Lib.hid p5
  have P6 := Lib.hid p6
  have P7 := Lib.hid p7
  clear p0 p1 p2 p3 p4 p5 p6 p7
  go_upto_region 2 with fail
  have HX : Hid (Ext w1 w1.drew) := Lib.hid (Ext.refl w1).drew
  cases bo
  all_goals refine quiet_region (C := Ext w1) (by kernel_rfl) (by kernel_rfl) HX.out ?_
  all_goals repeat (first
    | go_big_quiet_skip
    | (go_big_quiet_want; go_big_quiet_op; go_big_quiet_on)
    | (go_big_quiet_want; go_big_quiet_op; apply Exists.intro; refine ⟨fun _ _ => rfl, ?_⟩; go_big_quiet_on)
    | (go_big_quiet_want
       apply Exists.intro
       refine ⟨fun V hV => ?_, ?_⟩
       (have hm := HM.out V
        unfold Oper.quietAt
        go_simp
        go_at_call 189
        refine (HOK.out V (HBX.out V hV)).mono ?_
        rintro e w4 ⟨rfl, hb⟩
        exact ⟨rfl, hV.step hb⟩)
       simp only [Act.put, List.setIfInBounds_toArray, List.set_cons_zero, List.set_cons_succ]
       go_big_quiet_on)
    | (go_big_quiet_want
       apply Exists.intro
       refine ⟨fun V hV => ?_, ?_⟩
       (unfold Oper.quietAt
        go_simp
        go_at_call 31
        refine (HRO.out V (HBX.out V hV)).mono ?_
        rintro e w4 ⟨rfl, hb⟩
        exact ⟨rfl, hV.step hb⟩)
       simp only [Act.put, List.setIfInBounds_toArray, List.set_cons_zero, List.set_cons_succ]
       go_big_quiet_on)
    | (go_big_quiet_want
       apply Exists.intro
       refine ⟨fun V hV => ?_, ?_⟩
       (unfold Oper.quietAt
        go_simp
        simp only [ite_val8]
        exact ⟨trivial, rfl⟩)
       simp only [Act.put, List.setIfInBounds_toArray, List.set_cons_zero, List.set_cons_succ]
       go_big_quiet_on)
    | (go_big_quiet_want
       apply Exists.intro
       refine ⟨fun V hV => ?_, ?_⟩
       (have p0 := hV.cell P0.out (by omega); have p1 := hV.cell P1.out (by omega); have p2 := hV.cell P2.out (by omega); have p3 := hV.cell P3.out (by omega); have p4 := hV.cell P4.out (by omega); have p5 := hV.cell P5.out (by omega); have p6 := hV.cell P6.out (by omega); have p7 := hV.cell P7.out (by omega)
        unfold Oper.quietAt
        go_simp
        rfl)
       simp only [Act.put, List.setIfInBounds_toArray, List.set_cons_zero, List.set_cons_succ]
       go_big_quiet_on)
    | fail)
  all_goals refine wpQuiet_nil ?_
  all_goals intro w2 hw2
  all_goals have HB2 := Lib.hid (HBX.out w2 hw2)
  all_goals go_wp2
  all_goals go_ret
  · exact ⟨rfl, HB2.out⟩
  · exact ⟨congrArg (fun b => Ending.returned (.bool b)) (by first | (simp [str_eq8]; done) | simp [str_nil8, str_eq8]), HB2.out⟩
set_option maxRecDepth 100000 in
set_option maxHeartbeats 8000000 in
theorem implReqOk_amt (op : Int) (hop : op = 2 ∨ op = 3 ∨ op = 4) (acct other hold trace mti om : ByteArray) (amount ttl : Int) (w : World) (hO : opsIn w) (hs1 : acct.size ≤ maxLen) (hs2 : other.size ≤ maxLen) (hs3 : hold.size ≤ maxLen) (hs4 : trace.size ≤ maxLen) (hom : opTxt 0 op = om) :
    Calls Tryz.prog 37 #[.agg #[.int .i64 op, .string acct, .string other, .string hold, .string trace, .string mti, .int .i64 amount, .int .i64 ttl]] w fun e w' => e = .returned (.bool (((plainB op acct trace && idOk hold) && decide (0 ≤ amount ∧ amount ≤ 999999999999)) && (decide (op = op) && (decide (acct = acct) && (decide (⟨#[]⟩ = other) && (decide (hold = hold) && (decide (trace = trace) && (decide (om = mti) && (decide (amount = amount) && (decide (0 = ttl))))))))))) ∧ Below w.heap.size w w' := by
  have HQ := Lib.hid (fun V => requestOf_amt op hop acct other hold trace mti amount ttl V)
  have HOK := Lib.hid (fun V (hV : Below w.heap.size w V) => amtOkR_any op acct trace hold amount V (hO.below hV) hs1 hs3 hs4)
  have HRO := Lib.hid (fun V (hV : Below w.heap.size w V) => reqOf_amt op acct trace hold amount V (hO.below hV))
  rw [hom] at HRO
  generalize ((plainB op acct trace && idOk hold) && decide (0 ≤ amount ∧ amount ≤ 999999999999)) = bo at HOK ⊢
  have HM := Lib.hid (meth_amt op acct trace hold amount)
  clear hO hs1 hs2 hs3 hs4 hom
  go_enter Tryz.func37, Tryz.ntmps37
  go_upto_region 1 with fail
  obtain ⟨W, hW⟩ : ∃ W, W = w.alloc (.cells #[.int .i64 op, .string acct, .string other, .string hold, .string trace, .string mti, .int .i64 amount, .int .i64 ttl] 27) := ⟨_, rfl⟩
  have b0 : bk W w.heap.size 27 [.int .i64 op, .string acct, .string other, .string hold, .string trace, .string mti, .int .i64 amount, .int .i64 ttl] := by rw [hW]; exact bk.new w _ _
  have HBW : Hid (Below w.heap.size w W) := Lib.hid (by rw [hW]; exact (Below.refl _ _).alloc (Nat.le_refl _) _)
  have z0 := b0.lt
  rw [← hW]
  clear hW
  have B0 := Lib.hid b0
  obtain ⟨⟨p0, p1, p2, p3, p4, p5, p6, p7⟩, -⟩ := b0.eight
  clear b0
  go_wp2_with fail
  refine (HQ.out _).mono ?_
  rintro e w1 ⟨rfl, hb⟩
  have z1 := hb.size
  have B1 := Lib.hid (B0.out.below hb z0)
  have HB1 : Hid (Below w.heap.size w w1) := Lib.hid (HBW.out.trans (hb.mono (by omega)))
  clear hb p0 p1 p2 p3 p4 p5 p6 p7 B0 HBW HQ
  have HBX : Hid (∀ V, Ext w1 V → Below w.heap.size w V) := Lib.hid fun V hV => HB1.out.trans (hV.below.mono (by omega))
  obtain ⟨⟨p0, p1, p2, p3, p4, p5, p6, p7⟩, -⟩ := B1.out.eight
  have P0 := Lib.hid p0
  have P1 := Lib.hid p1
  have P2 := Lib.hid p2
  have P3 := Lib.hid p3
  have P4 := Lib.hid p4
  have P5 := Lib.hid p5
  have P6 := Lib.hid p6
  have P7 := Lib.hid p7
  clear p0 p1 p2 p3 p4 p5 p6 p7
  go_upto_region 2 with fail
  have HX : Hid (Ext w1 w1.drew) := Lib.hid (Ext.refl w1).drew
  cases bo
  all_goals refine quiet_region (C := Ext w1) (by kernel_rfl) (by kernel_rfl) HX.out ?_
  all_goals repeat (first
    | go_big_quiet_skip
    | (go_big_quiet_want; go_big_quiet_op; go_big_quiet_on)
    | (go_big_quiet_want; go_big_quiet_op; apply Exists.intro; refine ⟨fun _ _ => rfl, ?_⟩; go_big_quiet_on)
    | (go_big_quiet_want
       apply Exists.intro
       refine ⟨fun V hV => ?_, ?_⟩
       (have hm := HM.out V
        unfold Oper.quietAt
        go_simp
        go_at_call 193
        refine (HOK.out V (HBX.out V hV)).mono ?_
        rintro e w4 ⟨rfl, hb⟩
        exact ⟨rfl, hV.step hb⟩)
       simp only [Act.put, List.setIfInBounds_toArray, List.set_cons_zero, List.set_cons_succ]
       go_big_quiet_on)
    | (go_big_quiet_want
       apply Exists.intro
       refine ⟨fun V hV => ?_, ?_⟩
       (unfold Oper.quietAt
        go_simp
        go_at_call 31
        refine (HRO.out V (HBX.out V hV)).mono ?_
        rintro e w4 ⟨rfl, hb⟩
        exact ⟨rfl, hV.step hb⟩)
       simp only [Act.put, List.setIfInBounds_toArray, List.set_cons_zero, List.set_cons_succ]
       go_big_quiet_on)
    | (go_big_quiet_want
       apply Exists.intro
       refine ⟨fun V hV => ?_, ?_⟩
       (unfold Oper.quietAt
        go_simp
        simp only [ite_val8]
        exact ⟨trivial, rfl⟩)
       simp only [Act.put, List.setIfInBounds_toArray, List.set_cons_zero, List.set_cons_succ]
       go_big_quiet_on)
    | (go_big_quiet_want
       apply Exists.intro
       refine ⟨fun V hV => ?_, ?_⟩
       (have p0 := hV.cell P0.out (by omega); have p1 := hV.cell P1.out (by omega); have p2 := hV.cell P2.out (by omega); have p3 := hV.cell P3.out (by omega); have p4 := hV.cell P4.out (by omega); have p5 := hV.cell P5.out (by omega); have p6 := hV.cell P6.out (by omega); have p7 := hV.cell P7.out (by omega)
        unfold Oper.quietAt
        go_simp
        rfl)
       simp only [Act.put, List.setIfInBounds_toArray, List.set_cons_zero, List.set_cons_succ]
       go_big_quiet_on)
    | fail)
  all_goals refine wpQuiet_nil ?_
  all_goals intro w2 hw2
  all_goals have HB2 := Lib.hid (HBX.out w2 hw2)
  all_goals go_wp2
  all_goals go_ret
  · exact ⟨rfl, HB2.out⟩
  · exact ⟨congrArg (fun b => Ending.returned (.bool b)) (by first | (simp [str_eq8]; done) | simp [str_nil8, str_eq8]), HB2.out⟩
set_option maxRecDepth 100000 in
set_option maxHeartbeats 8000000 in
theorem implReqOk_auth (acct other hold trace mti om : ByteArray) (amount ttl : Int) (w : World) (hO : opsIn w) (hs1 : acct.size ≤ maxLen) (hs2 : other.size ≤ maxLen) (hs3 : hold.size ≤ maxLen) (hs4 : trace.size ≤ maxLen) (hom : opTxt 0 1 = om) :
    Calls Tryz.prog 37 #[.agg #[.int .i64 1, .string acct, .string other, .string hold, .string trace, .string mti, .int .i64 amount, .int .i64 ttl]] w fun e w' => e = .returned (.bool ((((plainB 1 acct trace && idOk hold) && decide (0 ≤ amount ∧ amount ≤ 999999999999)) && decide (0 ≤ ttl ∧ ttl ≤ 9999)) && (decide (1 = 1) && (decide (acct = acct) && (decide (⟨#[]⟩ = other) && (decide (hold = hold) && (decide (trace = trace) && (decide (om = mti) && (decide (amount = amount) && (decide (ttl = ttl))))))))))) ∧ Below w.heap.size w w' := by
  have HQ := Lib.hid (fun V => requestOf_auth  acct other hold trace mti amount ttl V)
  have HOK := Lib.hid (fun V (hV : Below w.heap.size w V) => authOkR_any 1 acct trace hold amount ttl V (hO.below hV) hs1 hs3 hs4)
  have HRO := Lib.hid (fun V (hV : Below w.heap.size w V) => reqOf_auth 1 acct trace hold amount ttl V (hO.below hV))
  rw [hom] at HRO
  generalize (((plainB 1 acct trace && idOk hold) && decide (0 ≤ amount ∧ amount ≤ 999999999999)) && decide (0 ≤ ttl ∧ ttl ≤ 9999)) = bo at HOK ⊢
  have HM := Lib.hid (meth_auth 1 acct trace hold amount ttl)
  clear hO hs1 hs2 hs3 hs4 hom
  go_enter Tryz.func37, Tryz.ntmps37
  go_upto_region 1 with fail
  obtain ⟨W, hW⟩ : ∃ W, W = w.alloc (.cells #[.int .i64 1, .string acct, .string other, .string hold, .string trace, .string mti, .int .i64 amount, .int .i64 ttl] 27) := ⟨_, rfl⟩
  have b0 : bk W w.heap.size 27 [.int .i64 1, .string acct, .string other, .string hold, .string trace, .string mti, .int .i64 amount, .int .i64 ttl] := by rw [hW]; exact bk.new w _ _
  have HBW : Hid (Below w.heap.size w W) := Lib.hid (by rw [hW]; exact (Below.refl _ _).alloc (Nat.le_refl _) _)
  have z0 := b0.lt
  rw [← hW]
  clear hW
  have B0 := Lib.hid b0
  obtain ⟨⟨p0, p1, p2, p3, p4, p5, p6, p7⟩, -⟩ := b0.eight
  clear b0
  go_wp2_with fail
  refine (HQ.out _).mono ?_
  rintro e w1 ⟨rfl, hb⟩
  have z1 := hb.size
  have B1 := Lib.hid (B0.out.below hb z0)
  have HB1 : Hid (Below w.heap.size w w1) := Lib.hid (HBW.out.trans (hb.mono (by omega)))
  clear hb p0 p1 p2 p3 p4 p5 p6 p7 B0 HBW HQ
  have HBX : Hid (∀ V, Ext w1 V → Below w.heap.size w V) := Lib.hid fun V hV => HB1.out.trans (hV.below.mono (by omega))
  obtain ⟨⟨p0, p1, p2, p3, p4, p5, p6, p7⟩, -⟩ := B1.out.eight
  have P0 := Lib.hid p0
  have P1 := Lib.hid p1
  have P2 := Lib.hid p2
  have P3 := Lib.hid p3
  have P4 := Lib.hid p4
  have P5 := Lib.hid p5
  have P6 := Lib.hid p6
  have P7 := Lib.hid p7
  clear p0 p1 p2 p3 p4 p5 p6 p7
  go_upto_region 2 with fail
  have HX : Hid (Ext w1 w1.drew) := Lib.hid (Ext.refl w1).drew
  cases bo
  all_goals refine quiet_region (C := Ext w1) (by kernel_rfl) (by kernel_rfl) HX.out ?_
  all_goals repeat (first
    | go_big_quiet_skip
    | (go_big_quiet_want; go_big_quiet_op; go_big_quiet_on)
    | (go_big_quiet_want; go_big_quiet_op; apply Exists.intro; refine ⟨fun _ _ => rfl, ?_⟩; go_big_quiet_on)
    | (go_big_quiet_want
       apply Exists.intro
       refine ⟨fun V hV => ?_, ?_⟩
       (have hm := HM.out V
        unfold Oper.quietAt
        go_simp
        go_at_call 196
        refine (HOK.out V (HBX.out V hV)).mono ?_
        rintro e w4 ⟨rfl, hb⟩
        exact ⟨rfl, hV.step hb⟩)
       simp only [Act.put, List.setIfInBounds_toArray, List.set_cons_zero, List.set_cons_succ]
       go_big_quiet_on)
    | (go_big_quiet_want
       apply Exists.intro
       refine ⟨fun V hV => ?_, ?_⟩
       (unfold Oper.quietAt
        go_simp
        go_at_call 31
        refine (HRO.out V (HBX.out V hV)).mono ?_
        rintro e w4 ⟨rfl, hb⟩
        exact ⟨rfl, hV.step hb⟩)
       simp only [Act.put, List.setIfInBounds_toArray, List.set_cons_zero, List.set_cons_succ]
       go_big_quiet_on)
    | (go_big_quiet_want
       apply Exists.intro
       refine ⟨fun V hV => ?_, ?_⟩
       (unfold Oper.quietAt
        go_simp
        simp only [ite_val8]
        exact ⟨trivial, rfl⟩)
       simp only [Act.put, List.setIfInBounds_toArray, List.set_cons_zero, List.set_cons_succ]
       go_big_quiet_on)
    | (go_big_quiet_want
       apply Exists.intro
       refine ⟨fun V hV => ?_, ?_⟩
       (have p0 := hV.cell P0.out (by omega); have p1 := hV.cell P1.out (by omega); have p2 := hV.cell P2.out (by omega); have p3 := hV.cell P3.out (by omega); have p4 := hV.cell P4.out (by omega); have p5 := hV.cell P5.out (by omega); have p6 := hV.cell P6.out (by omega); have p7 := hV.cell P7.out (by omega)
        unfold Oper.quietAt
        go_simp
        rfl)
       simp only [Act.put, List.setIfInBounds_toArray, List.set_cons_zero, List.set_cons_succ]
       go_big_quiet_on)
    | fail)
  all_goals refine wpQuiet_nil ?_
  all_goals intro w2 hw2
  all_goals have HB2 := Lib.hid (HBX.out w2 hw2)
  all_goals go_wp2
  all_goals go_ret
  · exact ⟨rfl, HB2.out⟩
  · exact ⟨congrArg (fun b => Ending.returned (.bool b)) (by first | (simp [str_eq8]; done) | simp [str_nil8, str_eq8]), HB2.out⟩
set_option maxRecDepth 100000 in
set_option maxHeartbeats 8000000 in
theorem implReqOk_move (acct other hold trace mti om : ByteArray) (amount ttl : Int) (w : World) (hO : opsIn w) (hs1 : acct.size ≤ maxLen) (hs2 : other.size ≤ maxLen) (hs3 : hold.size ≤ maxLen) (hs4 : trace.size ≤ maxLen) (hom : opTxt 0 6 = om) :
    Calls Tryz.prog 37 #[.agg #[.int .i64 6, .string acct, .string other, .string hold, .string trace, .string mti, .int .i64 amount, .int .i64 ttl]] w fun e w' => e = .returned (.bool (((plainB 6 acct trace && idOk hold) && acctIdB other) && (decide (6 = 6) && (decide (acct = acct) && (decide (other = other) && (decide (hold = hold) && (decide (trace = trace) && (decide (om = mti) && (decide (0 = amount) && (decide (0 = ttl))))))))))) ∧ Below w.heap.size w w' := by
  have HQ := Lib.hid (fun V => requestOf_move  acct other hold trace mti amount ttl V)
  have HOK := Lib.hid (fun V (hV : Below w.heap.size w V) => moveOkR_any 6 acct trace hold other V (hO.below hV) hs1 hs3 hs4 hs2)
  have HRO := Lib.hid (fun V (hV : Below w.heap.size w V) => reqOf_move 6 acct trace hold other V (hO.below hV))
  rw [hom] at HRO
  generalize ((plainB 6 acct trace && idOk hold) && acctIdB other) = bo at HOK ⊢
  have HM := Lib.hid (meth_move 6 acct trace hold other)
  clear hO hs1 hs2 hs3 hs4 hom
  go_enter Tryz.func37, Tryz.ntmps37
  go_upto_region 1 with fail
  obtain ⟨W, hW⟩ : ∃ W, W = w.alloc (.cells #[.int .i64 6, .string acct, .string other, .string hold, .string trace, .string mti, .int .i64 amount, .int .i64 ttl] 27) := ⟨_, rfl⟩
  have b0 : bk W w.heap.size 27 [.int .i64 6, .string acct, .string other, .string hold, .string trace, .string mti, .int .i64 amount, .int .i64 ttl] := by rw [hW]; exact bk.new w _ _
  have HBW : Hid (Below w.heap.size w W) := Lib.hid (by rw [hW]; exact (Below.refl _ _).alloc (Nat.le_refl _) _)
  have z0 := b0.lt
  rw [← hW]
  clear hW
  have B0 := Lib.hid b0
  obtain ⟨⟨p0, p1, p2, p3, p4, p5, p6, p7⟩, -⟩ := b0.eight
  clear b0
  go_wp2_with fail
  refine (HQ.out _).mono ?_
  rintro e w1 ⟨rfl, hb⟩
  have z1 := hb.size
  have B1 := Lib.hid (B0.out.below hb z0)
  have HB1 : Hid (Below w.heap.size w w1) := Lib.hid (HBW.out.trans (hb.mono (by omega)))
  clear hb p0 p1 p2 p3 p4 p5 p6 p7 B0 HBW HQ
  have HBX : Hid (∀ V, Ext w1 V → Below w.heap.size w V) := Lib.hid fun V hV => HB1.out.trans (hV.below.mono (by omega))
  obtain ⟨⟨p0, p1, p2, p3, p4, p5, p6, p7⟩, -⟩ := B1.out.eight
  have P0 := Lib.hid p0
  have P1 := Lib.hid p1
  have P2 := Lib.hid p2
  have P3 := Lib.hid p3
  have P4 := Lib.hid p4
  have P5 := Lib.hid p5
  have P6 := Lib.hid p6
  have P7 := Lib.hid p7
  clear p0 p1 p2 p3 p4 p5 p6 p7
  go_upto_region 2 with fail
  have HX : Hid (Ext w1 w1.drew) := Lib.hid (Ext.refl w1).drew
  cases bo
  all_goals refine quiet_region (C := Ext w1) (by kernel_rfl) (by kernel_rfl) HX.out ?_
  all_goals repeat (first
    | go_big_quiet_skip
    | (go_big_quiet_want; go_big_quiet_op; go_big_quiet_on)
    | (go_big_quiet_want; go_big_quiet_op; apply Exists.intro; refine ⟨fun _ _ => rfl, ?_⟩; go_big_quiet_on)
    | (go_big_quiet_want
       apply Exists.intro
       refine ⟨fun V hV => ?_, ?_⟩
       (have hm := HM.out V
        unfold Oper.quietAt
        go_simp
        go_at_call 198
        refine (HOK.out V (HBX.out V hV)).mono ?_
        rintro e w4 ⟨rfl, hb⟩
        exact ⟨rfl, hV.step hb⟩)
       simp only [Act.put, List.setIfInBounds_toArray, List.set_cons_zero, List.set_cons_succ]
       go_big_quiet_on)
    | (go_big_quiet_want
       apply Exists.intro
       refine ⟨fun V hV => ?_, ?_⟩
       (unfold Oper.quietAt
        go_simp
        go_at_call 31
        refine (HRO.out V (HBX.out V hV)).mono ?_
        rintro e w4 ⟨rfl, hb⟩
        exact ⟨rfl, hV.step hb⟩)
       simp only [Act.put, List.setIfInBounds_toArray, List.set_cons_zero, List.set_cons_succ]
       go_big_quiet_on)
    | (go_big_quiet_want
       apply Exists.intro
       refine ⟨fun V hV => ?_, ?_⟩
       (unfold Oper.quietAt
        go_simp
        simp only [ite_val8]
        exact ⟨trivial, rfl⟩)
       simp only [Act.put, List.setIfInBounds_toArray, List.set_cons_zero, List.set_cons_succ]
       go_big_quiet_on)
    | (go_big_quiet_want
       apply Exists.intro
       refine ⟨fun V hV => ?_, ?_⟩
       (have p0 := hV.cell P0.out (by omega); have p1 := hV.cell P1.out (by omega); have p2 := hV.cell P2.out (by omega); have p3 := hV.cell P3.out (by omega); have p4 := hV.cell P4.out (by omega); have p5 := hV.cell P5.out (by omega); have p6 := hV.cell P6.out (by omega); have p7 := hV.cell P7.out (by omega)
        unfold Oper.quietAt
        go_simp
        rfl)
       simp only [Act.put, List.setIfInBounds_toArray, List.set_cons_zero, List.set_cons_succ]
       go_big_quiet_on)
    | fail)
  all_goals refine wpQuiet_nil ?_
  all_goals intro w2 hw2
  all_goals have HB2 := Lib.hid (HBX.out w2 hw2)
  all_goals go_wp2
  all_goals go_ret
  · exact ⟨rfl, HB2.out⟩
  · exact ⟨congrArg (fun b => Ending.returned (.bool b)) (by first | (simp [str_eq8]; done) | simp [str_nil8, str_eq8]), HB2.out⟩
end Go.Proofs.YtmojpiofdfmdgabGreatDoor
