/- reqOf of the program, by the request's type; the table of operations lies as Go's text lays it. -/
import Derived.Test.YtiolebpoofkpmaaGreatDoorMrp10
import Derived.Laws.StructEq
set_option linter.unusedVariables false
namespace Go.Proofs.YtiolebpoofkpmaaGreatDoor
open Go.ChangeShapes Go.WideShapes Go.ChangeAt Go.RowKit

set_option maxRecDepth 100000 in
theorem as_plain_plain (op : Int) (acct trace : ByteArray) (w : World) : (Instr.typeAssert (.iface 85 (.agg #[.int .i64 op, .string acct, .string trace])) 63 85 true).run Tryz.prog w = .ok (.tuple #[.agg #[.int .i64 op, .string acct, .string trace], .bool true]) w := by kernel_rfl
set_option maxRecDepth 100000 in
theorem as_free_plain (op : Int) (acct trace hold : ByteArray) (w : World) : (Instr.typeAssert (.iface 87 (.agg #[.int .i64 op, .string acct, .string trace, .string hold])) 63 85 true).run Tryz.prog w = .ok (.tuple #[.agg #[.int .i64 0, .string ⟨#[]⟩, .string ⟨#[]⟩], .bool false]) w := by kernel_rfl
set_option maxRecDepth 100000 in
theorem as_free_free (op : Int) (acct trace hold : ByteArray) (w : World) : (Instr.typeAssert (.iface 87 (.agg #[.int .i64 op, .string acct, .string trace, .string hold])) 63 87 true).run Tryz.prog w = .ok (.tuple #[.agg #[.int .i64 op, .string acct, .string trace, .string hold], .bool true]) w := by kernel_rfl
set_option maxRecDepth 100000 in
theorem as_amt_plain (op : Int) (acct trace hold : ByteArray) (amount : Int) (w : World) : (Instr.typeAssert (.iface 89 (.agg #[.int .i64 op, .string acct, .string trace, .string hold, .int .i64 amount])) 63 85 true).run Tryz.prog w = .ok (.tuple #[.agg #[.int .i64 0, .string ⟨#[]⟩, .string ⟨#[]⟩], .bool false]) w := by kernel_rfl
set_option maxRecDepth 100000 in
theorem as_amt_free (op : Int) (acct trace hold : ByteArray) (amount : Int) (w : World) : (Instr.typeAssert (.iface 89 (.agg #[.int .i64 op, .string acct, .string trace, .string hold, .int .i64 amount])) 63 87 true).run Tryz.prog w = .ok (.tuple #[.agg #[.int .i64 0, .string ⟨#[]⟩, .string ⟨#[]⟩, .string ⟨#[]⟩], .bool false]) w := by kernel_rfl
set_option maxRecDepth 100000 in
theorem as_amt_amt (op : Int) (acct trace hold : ByteArray) (amount : Int) (w : World) : (Instr.typeAssert (.iface 89 (.agg #[.int .i64 op, .string acct, .string trace, .string hold, .int .i64 amount])) 63 89 true).run Tryz.prog w = .ok (.tuple #[.agg #[.int .i64 op, .string acct, .string trace, .string hold, .int .i64 amount], .bool true]) w := by kernel_rfl
set_option maxRecDepth 100000 in
theorem as_auth_plain (op : Int) (acct trace hold : ByteArray) (amount : Int) (ttl : Int) (w : World) : (Instr.typeAssert (.iface 91 (.agg #[.int .i64 op, .string acct, .string trace, .string hold, .int .i64 amount, .int .i64 ttl])) 63 85 true).run Tryz.prog w = .ok (.tuple #[.agg #[.int .i64 0, .string ⟨#[]⟩, .string ⟨#[]⟩], .bool false]) w := by kernel_rfl
set_option maxRecDepth 100000 in
theorem as_auth_free (op : Int) (acct trace hold : ByteArray) (amount : Int) (ttl : Int) (w : World) : (Instr.typeAssert (.iface 91 (.agg #[.int .i64 op, .string acct, .string trace, .string hold, .int .i64 amount, .int .i64 ttl])) 63 87 true).run Tryz.prog w = .ok (.tuple #[.agg #[.int .i64 0, .string ⟨#[]⟩, .string ⟨#[]⟩, .string ⟨#[]⟩], .bool false]) w := by kernel_rfl
set_option maxRecDepth 100000 in
theorem as_auth_amt (op : Int) (acct trace hold : ByteArray) (amount : Int) (ttl : Int) (w : World) : (Instr.typeAssert (.iface 91 (.agg #[.int .i64 op, .string acct, .string trace, .string hold, .int .i64 amount, .int .i64 ttl])) 63 89 true).run Tryz.prog w = .ok (.tuple #[.agg #[.int .i64 0, .string ⟨#[]⟩, .string ⟨#[]⟩, .string ⟨#[]⟩, .int .i64 0], .bool false]) w := by kernel_rfl
set_option maxRecDepth 100000 in
theorem as_auth_auth (op : Int) (acct trace hold : ByteArray) (amount : Int) (ttl : Int) (w : World) : (Instr.typeAssert (.iface 91 (.agg #[.int .i64 op, .string acct, .string trace, .string hold, .int .i64 amount, .int .i64 ttl])) 63 91 true).run Tryz.prog w = .ok (.tuple #[.agg #[.int .i64 op, .string acct, .string trace, .string hold, .int .i64 amount, .int .i64 ttl], .bool true]) w := by kernel_rfl
set_option maxRecDepth 100000 in
theorem as_move_plain (op : Int) (acct trace hold other : ByteArray) (w : World) : (Instr.typeAssert (.iface 93 (.agg #[.int .i64 op, .string acct, .string trace, .string hold, .string other])) 63 85 true).run Tryz.prog w = .ok (.tuple #[.agg #[.int .i64 0, .string ⟨#[]⟩, .string ⟨#[]⟩], .bool false]) w := by kernel_rfl
set_option maxRecDepth 100000 in
theorem as_move_free (op : Int) (acct trace hold other : ByteArray) (w : World) : (Instr.typeAssert (.iface 93 (.agg #[.int .i64 op, .string acct, .string trace, .string hold, .string other])) 63 87 true).run Tryz.prog w = .ok (.tuple #[.agg #[.int .i64 0, .string ⟨#[]⟩, .string ⟨#[]⟩, .string ⟨#[]⟩], .bool false]) w := by kernel_rfl
set_option maxRecDepth 100000 in
theorem as_move_amt (op : Int) (acct trace hold other : ByteArray) (w : World) : (Instr.typeAssert (.iface 93 (.agg #[.int .i64 op, .string acct, .string trace, .string hold, .string other])) 63 89 true).run Tryz.prog w = .ok (.tuple #[.agg #[.int .i64 0, .string ⟨#[]⟩, .string ⟨#[]⟩, .string ⟨#[]⟩, .int .i64 0], .bool false]) w := by kernel_rfl
set_option maxRecDepth 100000 in
theorem as_move_auth (op : Int) (acct trace hold other : ByteArray) (w : World) : (Instr.typeAssert (.iface 93 (.agg #[.int .i64 op, .string acct, .string trace, .string hold, .string other])) 63 91 true).run Tryz.prog w = .ok (.tuple #[.agg #[.int .i64 0, .string ⟨#[]⟩, .string ⟨#[]⟩, .string ⟨#[]⟩, .int .i64 0, .int .i64 0], .bool false]) w := by kernel_rfl
set_option maxRecDepth 100000 in
theorem as_move_move (op : Int) (acct trace hold other : ByteArray) (w : World) : (Instr.typeAssert (.iface 93 (.agg #[.int .i64 op, .string acct, .string trace, .string hold, .string other])) 63 93 true).run Tryz.prog w = .ok (.tuple #[.agg #[.int .i64 op, .string acct, .string trace, .string hold, .string other], .bool true]) w := by kernel_rfl
set_option maxRecDepth 100000 in
set_option maxHeartbeats 1000000 in
theorem reqOf_plain (op : Int) (acct trace : ByteArray) (w : World) (hO : opsIn w) :
    Calls Tryz.prog 35 #[.iface 85 (.agg #[.int .i64 op, .string acct, .string trace])] w fun e w' => e = .returned (.agg #[.int .i64 op, .string acct, .string ⟨#[]⟩, .string ⟨#[]⟩, .string trace, .string (opTxt 0 op), .int .i64 0, .int .i64 0]) ∧ Below w.heap.size w w' := by
  have haplain := as_plain_plain op acct trace
  have HM := Lib.hid (fun V (hV : Below w.heap.size w V) => implOpMti_any op V (hO.below hV))
  generalize opTxt 0 op = om at HM ⊢
  clear hO
  go_enter Tryz.func35, Tryz.ntmps35
  go_upto_region 5 with fail
  obtain ⟨W, hW⟩ : ∃ W, W = ((w.alloc (.cells #[.int .i64 0, .string ⟨#[]⟩, .string ⟨#[]⟩, .string ⟨#[]⟩, .string ⟨#[]⟩, .string ⟨#[]⟩, .int .i64 0, .int .i64 0] 37)).alloc (.cells #[.int .i64 0, .string ⟨#[]⟩, .string ⟨#[]⟩, .string ⟨#[]⟩, .string ⟨#[]⟩, .string ⟨#[]⟩, .int .i64 0, .int .i64 0] 37)).alloc (.cells #[.int .i64 op, .string acct, .string trace] 85) := ⟨_, rfl⟩
  have b0 : bk W w.heap.size 37 [.int .i64 0, .string ⟨#[]⟩, .string ⟨#[]⟩, .string ⟨#[]⟩, .string ⟨#[]⟩, .string ⟨#[]⟩, .int .i64 0, .int .i64 0] := by rw [hW]; have h0 := bk.new w 37 [.int .i64 0, .string ⟨#[]⟩, .string ⟨#[]⟩, .string ⟨#[]⟩, .string ⟨#[]⟩, .string ⟨#[]⟩, .int .i64 0, .int .i64 0]; simpa using (h0.alloc _).alloc _
  have b1 : bk W (w.heap.size + 1) 37 [.int .i64 0, .string ⟨#[]⟩, .string ⟨#[]⟩, .string ⟨#[]⟩, .string ⟨#[]⟩, .string ⟨#[]⟩, .int .i64 0, .int .i64 0] := by rw [hW]; have h0 := bk.new (w.alloc (.cells #[.int .i64 0, .string ⟨#[]⟩, .string ⟨#[]⟩, .string ⟨#[]⟩, .string ⟨#[]⟩, .string ⟨#[]⟩, .int .i64 0, .int .i64 0] 37)) 37 [.int .i64 0, .string ⟨#[]⟩, .string ⟨#[]⟩, .string ⟨#[]⟩, .string ⟨#[]⟩, .string ⟨#[]⟩, .int .i64 0, .int .i64 0]; simpa using h0.alloc _
  have b2 : bk W (w.heap.size + 1 + 1) 85 [.int .i64 op, .string acct, .string trace] := by rw [hW]; have h0 := bk.new ((w.alloc (.cells #[.int .i64 0, .string ⟨#[]⟩, .string ⟨#[]⟩, .string ⟨#[]⟩, .string ⟨#[]⟩, .string ⟨#[]⟩, .int .i64 0, .int .i64 0] 37)).alloc (.cells #[.int .i64 0, .string ⟨#[]⟩, .string ⟨#[]⟩, .string ⟨#[]⟩, .string ⟨#[]⟩, .string ⟨#[]⟩, .int .i64 0, .int .i64 0] 37)) 85 [.int .i64 op, .string acct, .string trace]; simpa using h0
  have HBW : Hid (Below w.heap.size w W) := Lib.hid (by rw [hW]; exact (((Below.refl _ _).alloc (Nat.le_refl _) _).alloc (by simp) _).alloc (by simp; omega) _)
  have z0 : w.heap.size + 3 ≤ W.heap.size := by rw [hW]; simp
  rw [← hW]
  clear hW haplain
  have B0 := Lib.hid b0
  have B1 := Lib.hid b1
  have B2 := Lib.hid b2
  clear b0 b1 b2
  have p0 := B2.out.cell 0
  have p1 := B2.out.cell 1
  have p2 := B2.out.cell 2
  go_region_held3 (fun V => V.cell? ⟨w.heap.size + 1 + 1, 0, none⟩ = some (.int .i64 op) ∧ V.cell? ⟨w.heap.size + 1 + 1, 1, none⟩ = some (.string acct) ∧ V.cell? ⟨w.heap.size + 1 + 1, 2, none⟩ = some (.string trace)) (go_keep) ((go_at_call 64; refine (HM.out _ (by first | exact HBW.out | exact HBW.out.drew)).mono ?_; rintro e w1 ⟨rfl, hb⟩; have z1 : W.heap.size ≤ w1.heap.size := hb.size; have HB1 : Hid (Below w.heap.size w w1) := Lib.hid (Below.trans HBW.out.drew (hb.mono (by first | omega | (show _ < W.heap.size; omega) | (show _ ≤ W.heap.size; omega)))); have c2 := B2.out.drew.below hb (by first | omega | (show _ < W.heap.size; omega) | (show _ ≤ W.heap.size; omega)); have C0 := Lib.hid (B0.out.drew.below hb (by first | omega | (show _ < W.heap.size; omega) | (show _ ≤ W.heap.size; omega))); have C1 := Lib.hid (B1.out.drew.below hb (by first | omega | (show _ < W.heap.size; omega) | (show _ ≤ W.heap.size; omega))); obtain ⟨⟨e0, e1, e2, e3, e4, e5, e6, e7⟩, ef⟩ := C1.out.eight; have q0 := c2.cell 0; have q1 := c2.cell 1; have q2 := c2.cell 2; clear hb c2 p0 p1 p2 B0 B1 B2))
  obtain ⟨V1, hV⟩ : ∃ V, V = ((((((((w1.setCell ⟨w.heap.size + 1, 0, none⟩ (.int .i64 op)).setCell ⟨w.heap.size + 1, 1, none⟩ (.string acct)).setCell ⟨w.heap.size + 1, 2, none⟩ (.string ⟨#[]⟩)).setCell ⟨w.heap.size + 1, 3, none⟩ (.string ⟨#[]⟩)).setCell ⟨w.heap.size + 1, 4, none⟩ (.string trace)).setCell ⟨w.heap.size + 1, 5, none⟩ (.string (om))).setCell ⟨w.heap.size + 1, 6, none⟩ (.int .i64 0)).setCell ⟨w.heap.size + 1, 7, none⟩ (.int .i64 0)) := ⟨_, rfl⟩
  have bV : bk V1 (w.heap.size + 1) 37 [.int .i64 op, .string acct, .string ⟨#[]⟩, .string ⟨#[]⟩, .string trace, .string (om), .int .i64 0, .int .i64 0] := by rw [hV]; exact set8_bk C1.out (.int .i64 op) (.string acct) (.string ⟨#[]⟩) (.string ⟨#[]⟩) (.string trace) (.string (om)) (.int .i64 0) (.int .i64 0)
  have tV : Turned (w.heap.size + 1) (w.heap.size + 1 + 1) w1 V1 := by rw [hV]; exact set8_turned w1 (w.heap.size + 1) (.int .i64 op) (.string acct) (.string ⟨#[]⟩) (.string ⟨#[]⟩) (.string trace) (.string (om)) (.int .i64 0) (.int .i64 0)
  rw [← hV]
  clear hV q0 q1 q2 e0 e1 e2 e3 e4 e5 e6 e7 ef C1
  have z2 := tV.size
  have HB2 : Hid (Below w.heap.size w V1) := Lib.hid (HB1.out.trans (tV.below (B := w.heap.size) (by omega) (by omega)))
  have C2 := Lib.hid (C0.out.under tV (by omega))
  have HT2 := Lib.hid (there8 C2.out)
  clear tV C0 HB1
  have HLD := Lib.hid (load8r bV)
  clear bV
  go_wp2_with (first | (refine wpList_load_mid rfl 37 _ rfl (w.heap.size + 1) 0 rfl [.int .i64 op, .string acct, .string ⟨#[]⟩, .string ⟨#[]⟩, .string trace, .string (om), .int .i64 0, .int .i64 0] _ HLD.out Tryz.underlying37 rfl sizeReq ?_) | (refine wpList_store_mid rfl 37 _ _ rfl w.heap.size 0 #[.int .i64 op, .string acct, .string ⟨#[]⟩, .string ⟨#[]⟩, .string trace, .string (om), .int .i64 0, .int .i64 0] rfl rfl HT2.out sizeReq (one8 ..) ?_; generalize hV2 : World.setCells _ _ _ _ = V2))
  have bV2 : bk V2 w.heap.size 37 [.int .i64 op, .string acct, .string ⟨#[]⟩, .string ⟨#[]⟩, .string trace, .string (om), .int .i64 0, .int .i64 0] := by rw [← hV2]; exact set8_bk C2.out (.int .i64 op) (.string acct) (.string ⟨#[]⟩) (.string ⟨#[]⟩) (.string trace) (.string (om)) (.int .i64 0) (.int .i64 0)
  have tV2 : Turned w.heap.size (w.heap.size + 1) V1 V2 := by rw [← hV2]; exact set8_turned V1 w.heap.size (.int .i64 op) (.string acct) (.string ⟨#[]⟩) (.string ⟨#[]⟩) (.string trace) (.string (om)) (.int .i64 0) (.int .i64 0)
  have HB3 : Hid (Below w.heap.size w V2) := Lib.hid (HB2.out.trans (tV2.below (B := w.heap.size) (by omega) (by omega)))
  obtain ⟨⟨f0, f1, f2, f3, f4, f5, f6, f7⟩, -⟩ := bV2.eight
  exact bodyPost_ret (v := .agg #[.int .i64 op, .string acct, .string ⟨#[]⟩, .string ⟨#[]⟩, .string trace, .string (om), .int .i64 0, .int .i64 0]) (by simp [results, Tryz.results35, go_sem, f0, f1, f2, f3, f4, f5, f6, f7]) rfl ⟨rfl, HB3.out⟩
set_option maxRecDepth 100000 in
set_option maxHeartbeats 1000000 in
theorem reqOf_free (op : Int) (acct trace hold : ByteArray) (w : World) (hO : opsIn w) :
    Calls Tryz.prog 35 #[.iface 87 (.agg #[.int .i64 op, .string acct, .string trace, .string hold])] w fun e w' => e = .returned (.agg #[.int .i64 op, .string acct, .string ⟨#[]⟩, .string hold, .string trace, .string (opTxt 0 op), .int .i64 0, .int .i64 0]) ∧ Below w.heap.size w w' := by
  have haplain := as_free_plain op acct trace hold
  have hafree := as_free_free op acct trace hold
  have HM := Lib.hid (fun V (hV : Below w.heap.size w V) => reqOf_plain op acct trace V (hO.below hV))
  generalize opTxt 0 op = om at HM ⊢
  clear hO
  go_enter Tryz.func35, Tryz.ntmps35
  go_upto_region 8 with fail
  obtain ⟨W, hW⟩ : ∃ W, W = ((w.alloc (.cells #[.int .i64 0, .string ⟨#[]⟩, .string ⟨#[]⟩, .string ⟨#[]⟩, .string ⟨#[]⟩, .string ⟨#[]⟩, .int .i64 0, .int .i64 0] 37)).alloc (.cells #[.int .i64 0, .string ⟨#[]⟩, .string ⟨#[]⟩, .string ⟨#[]⟩, .string ⟨#[]⟩, .string ⟨#[]⟩, .int .i64 0, .int .i64 0] 37)).alloc (.cells #[.int .i64 op, .string acct, .string trace, .string hold] 87) := ⟨_, rfl⟩
  have b0 : bk W w.heap.size 37 [.int .i64 0, .string ⟨#[]⟩, .string ⟨#[]⟩, .string ⟨#[]⟩, .string ⟨#[]⟩, .string ⟨#[]⟩, .int .i64 0, .int .i64 0] := by rw [hW]; have h0 := bk.new w 37 [.int .i64 0, .string ⟨#[]⟩, .string ⟨#[]⟩, .string ⟨#[]⟩, .string ⟨#[]⟩, .string ⟨#[]⟩, .int .i64 0, .int .i64 0]; simpa using (h0.alloc _).alloc _
  have b1 : bk W (w.heap.size + 1) 37 [.int .i64 0, .string ⟨#[]⟩, .string ⟨#[]⟩, .string ⟨#[]⟩, .string ⟨#[]⟩, .string ⟨#[]⟩, .int .i64 0, .int .i64 0] := by rw [hW]; have h0 := bk.new (w.alloc (.cells #[.int .i64 0, .string ⟨#[]⟩, .string ⟨#[]⟩, .string ⟨#[]⟩, .string ⟨#[]⟩, .string ⟨#[]⟩, .int .i64 0, .int .i64 0] 37)) 37 [.int .i64 0, .string ⟨#[]⟩, .string ⟨#[]⟩, .string ⟨#[]⟩, .string ⟨#[]⟩, .string ⟨#[]⟩, .int .i64 0, .int .i64 0]; simpa using h0.alloc _
  have b2 : bk W (w.heap.size + 1 + 1) 87 [.int .i64 op, .string acct, .string trace, .string hold] := by rw [hW]; have h0 := bk.new ((w.alloc (.cells #[.int .i64 0, .string ⟨#[]⟩, .string ⟨#[]⟩, .string ⟨#[]⟩, .string ⟨#[]⟩, .string ⟨#[]⟩, .int .i64 0, .int .i64 0] 37)).alloc (.cells #[.int .i64 0, .string ⟨#[]⟩, .string ⟨#[]⟩, .string ⟨#[]⟩, .string ⟨#[]⟩, .string ⟨#[]⟩, .int .i64 0, .int .i64 0] 37)) 87 [.int .i64 op, .string acct, .string trace, .string hold]; simpa using h0
  have HBW : Hid (Below w.heap.size w W) := Lib.hid (by rw [hW]; exact (((Below.refl _ _).alloc (Nat.le_refl _) _).alloc (by simp) _).alloc (by simp; omega) _)
  have z0 : w.heap.size + 3 ≤ W.heap.size := by rw [hW]; simp
  rw [← hW]
  clear hW haplain hafree
  have B0 := Lib.hid b0
  have B1 := Lib.hid b1
  have B2 := Lib.hid b2
  clear b0 b1 b2
  have p0 := B2.out.cell 0
  have p1 := B2.out.cell 1
  have p2 := B2.out.cell 2
  have p3 := B2.out.cell 3
  go_wp2_with fail
  refine (HM.out W HBW.out).mono ?_
  rintro e w1 ⟨rfl, hb⟩
  have z1 : W.heap.size ≤ w1.heap.size := hb.size
  have HB1 : Hid (Below w.heap.size w w1) := Lib.hid (Below.trans HBW.out (hb.mono (by first | omega | (simp <;> omega))))
  have c2 := B2.out.below hb (by first | omega | (simp <;> omega))
  have C0 := Lib.hid (B0.out.below hb (by first | omega | (simp <;> omega)))
  have C1 := Lib.hid (B1.out.below hb (by first | omega | (simp <;> omega)))
  obtain ⟨⟨e0, e1, e2, e3, e4, e5, e6, e7⟩, ef⟩ := C1.out.eight
  have C9 := Lib.hid c2
  clear hb c2 p0 p1 p2 p3 B0 B1 B2 e0 e1 e2 e3 e4 e5 e6 e7 ef
  have HT1 := Lib.hid (there8 C1.out)
  go_upto_region 9 with (refine wpList_store_mid rfl 37 _ _ rfl (w.heap.size + 1) 0 #[.int .i64 op, .string acct, .string ⟨#[]⟩, .string ⟨#[]⟩, .string trace, .string (om), .int .i64 0, .int .i64 0] rfl rfl HT1.out sizeReq (one8 ..) ?_; generalize hV0 : World.setCells _ _ _ _ = V0)
  have bV0 : bk V0 (w.heap.size + 1) 37 [.int .i64 op, .string acct, .string ⟨#[]⟩, .string ⟨#[]⟩, .string trace, .string (om), .int .i64 0, .int .i64 0] := by rw [← hV0]; exact set8_bk C1.out (.int .i64 op) (.string acct) (.string ⟨#[]⟩) (.string ⟨#[]⟩) (.string trace) (.string (om)) (.int .i64 0) (.int .i64 0)
  have tV0 : Turned (w.heap.size + 1) (w.heap.size + 1 + 1) w1 V0 := by rw [← hV0]; exact set8_turned w1 (w.heap.size + 1) (.int .i64 op) (.string acct) (.string ⟨#[]⟩) (.string ⟨#[]⟩) (.string trace) (.string (om)) (.int .i64 0) (.int .i64 0)
  clear hV0 HT1 C1
  have zv := tV0.size
  have C9 := Lib.hid (C9.out.under tV0 (by omega))
  have q9 := C9.out.cell 3
  have e9 := bV0.cell 3
  have f9 := bV0.frozen 3
  go_upto_region 22 with fail
  obtain ⟨V1, hV⟩ : ∃ V, V = V0.setCell ⟨w.heap.size + 1, 3, none⟩ (.string hold) := ⟨_, rfl⟩
  have bV : bk V1 (w.heap.size + 1) 37 [.int .i64 op, .string acct, .string ⟨#[]⟩, .string hold, .string trace, .string (om), .int .i64 0, .int .i64 0] := by rw [hV]; exact bV0.set 3 (.string hold)
  have tV : Turned (w.heap.size + 1) (w.heap.size + 1 + 1) w1 V1 := by rw [hV]; exact tV0.set (b := w.heap.size + 1) 3 (.string hold) (by omega) (by omega)
  rw [← hV]
  clear hV q9 e9 f9 tV0 bV0 C9
  have z2 := tV.size
  have HB2 : Hid (Below w.heap.size w V1) := Lib.hid (HB1.out.trans (tV.below (B := w.heap.size) (by omega) (by omega)))
  have C2 := Lib.hid (C0.out.under tV (by omega))
  have HT2 := Lib.hid (there8 C2.out)
  clear tV C0 HB1
  have HLD := Lib.hid (load8r bV)
  clear bV
  go_wp2_with (first | (refine wpList_load_mid rfl 37 _ rfl (w.heap.size + 1) 0 rfl [.int .i64 op, .string acct, .string ⟨#[]⟩, .string hold, .string trace, .string (om), .int .i64 0, .int .i64 0] _ HLD.out Tryz.underlying37 rfl sizeReq ?_) | (refine wpList_store_mid rfl 37 _ _ rfl w.heap.size 0 #[.int .i64 op, .string acct, .string ⟨#[]⟩, .string hold, .string trace, .string (om), .int .i64 0, .int .i64 0] rfl rfl HT2.out sizeReq (one8 ..) ?_; generalize hV2 : World.setCells _ _ _ _ = V2))
  have bV2 : bk V2 w.heap.size 37 [.int .i64 op, .string acct, .string ⟨#[]⟩, .string hold, .string trace, .string (om), .int .i64 0, .int .i64 0] := by rw [← hV2]; exact set8_bk C2.out (.int .i64 op) (.string acct) (.string ⟨#[]⟩) (.string hold) (.string trace) (.string (om)) (.int .i64 0) (.int .i64 0)
  have tV2 : Turned w.heap.size (w.heap.size + 1) V1 V2 := by rw [← hV2]; exact set8_turned V1 w.heap.size (.int .i64 op) (.string acct) (.string ⟨#[]⟩) (.string hold) (.string trace) (.string (om)) (.int .i64 0) (.int .i64 0)
  have HB3 : Hid (Below w.heap.size w V2) := Lib.hid (HB2.out.trans (tV2.below (B := w.heap.size) (by omega) (by omega)))
  obtain ⟨⟨f0, f1, f2, f3, f4, f5, f6, f7⟩, -⟩ := bV2.eight
  exact bodyPost_ret (v := .agg #[.int .i64 op, .string acct, .string ⟨#[]⟩, .string hold, .string trace, .string (om), .int .i64 0, .int .i64 0]) (by simp [results, Tryz.results35, go_sem, f0, f1, f2, f3, f4, f5, f6, f7]) rfl ⟨rfl, HB3.out⟩
set_option maxRecDepth 100000 in
set_option maxHeartbeats 1000000 in
theorem reqOf_amt (op : Int) (acct trace hold : ByteArray) (amount : Int) (w : World) (hO : opsIn w) :
    Calls Tryz.prog 35 #[.iface 89 (.agg #[.int .i64 op, .string acct, .string trace, .string hold, .int .i64 amount])] w fun e w' => e = .returned (.agg #[.int .i64 op, .string acct, .string ⟨#[]⟩, .string hold, .string trace, .string (opTxt 0 op), .int .i64 amount, .int .i64 0]) ∧ Below w.heap.size w w' := by
  have haplain := as_amt_plain op acct trace hold amount
  have hafree := as_amt_free op acct trace hold amount
  have haamt := as_amt_amt op acct trace hold amount
  have HM := Lib.hid (fun V (hV : Below w.heap.size w V) => reqOf_free op acct trace hold V (hO.below hV))
  generalize opTxt 0 op = om at HM ⊢
  clear hO
  go_enter Tryz.func35, Tryz.ntmps35
  go_upto_region 12 with fail
  obtain ⟨W, hW⟩ : ∃ W, W = ((w.alloc (.cells #[.int .i64 0, .string ⟨#[]⟩, .string ⟨#[]⟩, .string ⟨#[]⟩, .string ⟨#[]⟩, .string ⟨#[]⟩, .int .i64 0, .int .i64 0] 37)).alloc (.cells #[.int .i64 0, .string ⟨#[]⟩, .string ⟨#[]⟩, .string ⟨#[]⟩, .string ⟨#[]⟩, .string ⟨#[]⟩, .int .i64 0, .int .i64 0] 37)).alloc (.cells #[.int .i64 op, .string acct, .string trace, .string hold, .int .i64 amount] 89) := ⟨_, rfl⟩
  have b0 : bk W w.heap.size 37 [.int .i64 0, .string ⟨#[]⟩, .string ⟨#[]⟩, .string ⟨#[]⟩, .string ⟨#[]⟩, .string ⟨#[]⟩, .int .i64 0, .int .i64 0] := by rw [hW]; have h0 := bk.new w 37 [.int .i64 0, .string ⟨#[]⟩, .string ⟨#[]⟩, .string ⟨#[]⟩, .string ⟨#[]⟩, .string ⟨#[]⟩, .int .i64 0, .int .i64 0]; simpa using (h0.alloc _).alloc _
  have b1 : bk W (w.heap.size + 1) 37 [.int .i64 0, .string ⟨#[]⟩, .string ⟨#[]⟩, .string ⟨#[]⟩, .string ⟨#[]⟩, .string ⟨#[]⟩, .int .i64 0, .int .i64 0] := by rw [hW]; have h0 := bk.new (w.alloc (.cells #[.int .i64 0, .string ⟨#[]⟩, .string ⟨#[]⟩, .string ⟨#[]⟩, .string ⟨#[]⟩, .string ⟨#[]⟩, .int .i64 0, .int .i64 0] 37)) 37 [.int .i64 0, .string ⟨#[]⟩, .string ⟨#[]⟩, .string ⟨#[]⟩, .string ⟨#[]⟩, .string ⟨#[]⟩, .int .i64 0, .int .i64 0]; simpa using h0.alloc _
  have b2 : bk W (w.heap.size + 1 + 1) 89 [.int .i64 op, .string acct, .string trace, .string hold, .int .i64 amount] := by rw [hW]; have h0 := bk.new ((w.alloc (.cells #[.int .i64 0, .string ⟨#[]⟩, .string ⟨#[]⟩, .string ⟨#[]⟩, .string ⟨#[]⟩, .string ⟨#[]⟩, .int .i64 0, .int .i64 0] 37)).alloc (.cells #[.int .i64 0, .string ⟨#[]⟩, .string ⟨#[]⟩, .string ⟨#[]⟩, .string ⟨#[]⟩, .string ⟨#[]⟩, .int .i64 0, .int .i64 0] 37)) 89 [.int .i64 op, .string acct, .string trace, .string hold, .int .i64 amount]; simpa using h0
  have HBW : Hid (Below w.heap.size w W) := Lib.hid (by rw [hW]; exact (((Below.refl _ _).alloc (Nat.le_refl _) _).alloc (by simp) _).alloc (by simp; omega) _)
  have z0 : w.heap.size + 3 ≤ W.heap.size := by rw [hW]; simp
  rw [← hW]
  clear hW haplain hafree haamt
  have B0 := Lib.hid b0
  have B1 := Lib.hid b1
  have B2 := Lib.hid b2
  clear b0 b1 b2
  have p0 := B2.out.cell 0
  have p1 := B2.out.cell 1
  have p2 := B2.out.cell 2
  have p3 := B2.out.cell 3
  have p4 := B2.out.cell 4
  go_wp2_with fail
  refine (HM.out W HBW.out).mono ?_
  rintro e w1 ⟨rfl, hb⟩
  have z1 : W.heap.size ≤ w1.heap.size := hb.size
  have HB1 : Hid (Below w.heap.size w w1) := Lib.hid (Below.trans HBW.out (hb.mono (by first | omega | (simp <;> omega))))
  have c2 := B2.out.below hb (by first | omega | (simp <;> omega))
  have C0 := Lib.hid (B0.out.below hb (by first | omega | (simp <;> omega)))
  have C1 := Lib.hid (B1.out.below hb (by first | omega | (simp <;> omega)))
  obtain ⟨⟨e0, e1, e2, e3, e4, e5, e6, e7⟩, ef⟩ := C1.out.eight
  have C9 := Lib.hid c2
  clear hb c2 p0 p1 p2 p3 p4 B0 B1 B2 e0 e1 e2 e3 e4 e5 e6 e7 ef
  have HT1 := Lib.hid (there8 C1.out)
  go_upto_region 13 with (refine wpList_store_mid rfl 37 _ _ rfl (w.heap.size + 1) 0 #[.int .i64 op, .string acct, .string ⟨#[]⟩, .string hold, .string trace, .string (om), .int .i64 0, .int .i64 0] rfl rfl HT1.out sizeReq (one8 ..) ?_; generalize hV0 : World.setCells _ _ _ _ = V0)
  have bV0 : bk V0 (w.heap.size + 1) 37 [.int .i64 op, .string acct, .string ⟨#[]⟩, .string hold, .string trace, .string (om), .int .i64 0, .int .i64 0] := by rw [← hV0]; exact set8_bk C1.out (.int .i64 op) (.string acct) (.string ⟨#[]⟩) (.string hold) (.string trace) (.string (om)) (.int .i64 0) (.int .i64 0)
  have tV0 : Turned (w.heap.size + 1) (w.heap.size + 1 + 1) w1 V0 := by rw [← hV0]; exact set8_turned w1 (w.heap.size + 1) (.int .i64 op) (.string acct) (.string ⟨#[]⟩) (.string hold) (.string trace) (.string (om)) (.int .i64 0) (.int .i64 0)
  clear hV0 HT1 C1
  have zv := tV0.size
  have C9 := Lib.hid (C9.out.under tV0 (by omega))
  have q9 := C9.out.cell 4
  have e9 := bV0.cell 6
  have f9 := bV0.frozen 6
  go_upto_region 22 with fail
  obtain ⟨V1, hV⟩ : ∃ V, V = V0.setCell ⟨w.heap.size + 1, 6, none⟩ (.int .i64 amount) := ⟨_, rfl⟩
  have bV : bk V1 (w.heap.size + 1) 37 [.int .i64 op, .string acct, .string ⟨#[]⟩, .string hold, .string trace, .string (om), .int .i64 amount, .int .i64 0] := by rw [hV]; exact bV0.set 6 (.int .i64 amount)
  have tV : Turned (w.heap.size + 1) (w.heap.size + 1 + 1) w1 V1 := by rw [hV]; exact tV0.set (b := w.heap.size + 1) 6 (.int .i64 amount) (by omega) (by omega)
  rw [← hV]
  clear hV q9 e9 f9 tV0 bV0 C9
  have z2 := tV.size
  have HB2 : Hid (Below w.heap.size w V1) := Lib.hid (HB1.out.trans (tV.below (B := w.heap.size) (by omega) (by omega)))
  have C2 := Lib.hid (C0.out.under tV (by omega))
  have HT2 := Lib.hid (there8 C2.out)
  clear tV C0 HB1
  have HLD := Lib.hid (load8r bV)
  clear bV
  go_wp2_with (first | (refine wpList_load_mid rfl 37 _ rfl (w.heap.size + 1) 0 rfl [.int .i64 op, .string acct, .string ⟨#[]⟩, .string hold, .string trace, .string (om), .int .i64 amount, .int .i64 0] _ HLD.out Tryz.underlying37 rfl sizeReq ?_) | (refine wpList_store_mid rfl 37 _ _ rfl w.heap.size 0 #[.int .i64 op, .string acct, .string ⟨#[]⟩, .string hold, .string trace, .string (om), .int .i64 amount, .int .i64 0] rfl rfl HT2.out sizeReq (one8 ..) ?_; generalize hV2 : World.setCells _ _ _ _ = V2))
  have bV2 : bk V2 w.heap.size 37 [.int .i64 op, .string acct, .string ⟨#[]⟩, .string hold, .string trace, .string (om), .int .i64 amount, .int .i64 0] := by rw [← hV2]; exact set8_bk C2.out (.int .i64 op) (.string acct) (.string ⟨#[]⟩) (.string hold) (.string trace) (.string (om)) (.int .i64 amount) (.int .i64 0)
  have tV2 : Turned w.heap.size (w.heap.size + 1) V1 V2 := by rw [← hV2]; exact set8_turned V1 w.heap.size (.int .i64 op) (.string acct) (.string ⟨#[]⟩) (.string hold) (.string trace) (.string (om)) (.int .i64 amount) (.int .i64 0)
  have HB3 : Hid (Below w.heap.size w V2) := Lib.hid (HB2.out.trans (tV2.below (B := w.heap.size) (by omega) (by omega)))
  obtain ⟨⟨f0, f1, f2, f3, f4, f5, f6, f7⟩, -⟩ := bV2.eight
  exact bodyPost_ret (v := .agg #[.int .i64 op, .string acct, .string ⟨#[]⟩, .string hold, .string trace, .string (om), .int .i64 amount, .int .i64 0]) (by simp [results, Tryz.results35, go_sem, f0, f1, f2, f3, f4, f5, f6, f7]) rfl ⟨rfl, HB3.out⟩
set_option maxRecDepth 100000 in
set_option maxHeartbeats 1000000 in
theorem reqOf_auth (op : Int) (acct trace hold : ByteArray) (amount : Int) (ttl : Int) (w : World) (hO : opsIn w) :
    Calls Tryz.prog 35 #[.iface 91 (.agg #[.int .i64 op, .string acct, .string trace, .string hold, .int .i64 amount, .int .i64 ttl])] w fun e w' => e = .returned (.agg #[.int .i64 op, .string acct, .string ⟨#[]⟩, .string hold, .string trace, .string (opTxt 0 op), .int .i64 amount, .int .i64 ttl]) ∧ Below w.heap.size w w' := by
  have haplain := as_auth_plain op acct trace hold amount ttl
  have hafree := as_auth_free op acct trace hold amount ttl
  have haamt := as_auth_amt op acct trace hold amount ttl
  have haauth := as_auth_auth op acct trace hold amount ttl
  have HM := Lib.hid (fun V (hV : Below w.heap.size w V) => reqOf_amt op acct trace hold amount V (hO.below hV))
  generalize opTxt 0 op = om at HM ⊢
  clear hO
  go_enter Tryz.func35, Tryz.ntmps35
  go_upto_region 16 with fail
  obtain ⟨W, hW⟩ : ∃ W, W = ((w.alloc (.cells #[.int .i64 0, .string ⟨#[]⟩, .string ⟨#[]⟩, .string ⟨#[]⟩, .string ⟨#[]⟩, .string ⟨#[]⟩, .int .i64 0, .int .i64 0] 37)).alloc (.cells #[.int .i64 0, .string ⟨#[]⟩, .string ⟨#[]⟩, .string ⟨#[]⟩, .string ⟨#[]⟩, .string ⟨#[]⟩, .int .i64 0, .int .i64 0] 37)).alloc (.cells #[.int .i64 op, .string acct, .string trace, .string hold, .int .i64 amount, .int .i64 ttl] 91) := ⟨_, rfl⟩
  have b0 : bk W w.heap.size 37 [.int .i64 0, .string ⟨#[]⟩, .string ⟨#[]⟩, .string ⟨#[]⟩, .string ⟨#[]⟩, .string ⟨#[]⟩, .int .i64 0, .int .i64 0] := by rw [hW]; have h0 := bk.new w 37 [.int .i64 0, .string ⟨#[]⟩, .string ⟨#[]⟩, .string ⟨#[]⟩, .string ⟨#[]⟩, .string ⟨#[]⟩, .int .i64 0, .int .i64 0]; simpa using (h0.alloc _).alloc _
  have b1 : bk W (w.heap.size + 1) 37 [.int .i64 0, .string ⟨#[]⟩, .string ⟨#[]⟩, .string ⟨#[]⟩, .string ⟨#[]⟩, .string ⟨#[]⟩, .int .i64 0, .int .i64 0] := by rw [hW]; have h0 := bk.new (w.alloc (.cells #[.int .i64 0, .string ⟨#[]⟩, .string ⟨#[]⟩, .string ⟨#[]⟩, .string ⟨#[]⟩, .string ⟨#[]⟩, .int .i64 0, .int .i64 0] 37)) 37 [.int .i64 0, .string ⟨#[]⟩, .string ⟨#[]⟩, .string ⟨#[]⟩, .string ⟨#[]⟩, .string ⟨#[]⟩, .int .i64 0, .int .i64 0]; simpa using h0.alloc _
  have b2 : bk W (w.heap.size + 1 + 1) 91 [.int .i64 op, .string acct, .string trace, .string hold, .int .i64 amount, .int .i64 ttl] := by rw [hW]; have h0 := bk.new ((w.alloc (.cells #[.int .i64 0, .string ⟨#[]⟩, .string ⟨#[]⟩, .string ⟨#[]⟩, .string ⟨#[]⟩, .string ⟨#[]⟩, .int .i64 0, .int .i64 0] 37)).alloc (.cells #[.int .i64 0, .string ⟨#[]⟩, .string ⟨#[]⟩, .string ⟨#[]⟩, .string ⟨#[]⟩, .string ⟨#[]⟩, .int .i64 0, .int .i64 0] 37)) 91 [.int .i64 op, .string acct, .string trace, .string hold, .int .i64 amount, .int .i64 ttl]; simpa using h0
  have HBW : Hid (Below w.heap.size w W) := Lib.hid (by rw [hW]; exact (((Below.refl _ _).alloc (Nat.le_refl _) _).alloc (by simp) _).alloc (by simp; omega) _)
  have z0 : w.heap.size + 3 ≤ W.heap.size := by rw [hW]; simp
  rw [← hW]
  clear hW haplain hafree haamt haauth
  have B0 := Lib.hid b0
  have B1 := Lib.hid b1
  have B2 := Lib.hid b2
  clear b0 b1 b2
  have p0 := B2.out.cell 0
  have p1 := B2.out.cell 1
  have p2 := B2.out.cell 2
  have p3 := B2.out.cell 3
  have p4 := B2.out.cell 4
  have p5 := B2.out.cell 5
  go_wp2_with fail
  refine (HM.out W HBW.out).mono ?_
  rintro e w1 ⟨rfl, hb⟩
  have z1 : W.heap.size ≤ w1.heap.size := hb.size
  have HB1 : Hid (Below w.heap.size w w1) := Lib.hid (Below.trans HBW.out (hb.mono (by first | omega | (simp <;> omega))))
  have c2 := B2.out.below hb (by first | omega | (simp <;> omega))
  have C0 := Lib.hid (B0.out.below hb (by first | omega | (simp <;> omega)))
  have C1 := Lib.hid (B1.out.below hb (by first | omega | (simp <;> omega)))
  obtain ⟨⟨e0, e1, e2, e3, e4, e5, e6, e7⟩, ef⟩ := C1.out.eight
  have C9 := Lib.hid c2
  clear hb c2 p0 p1 p2 p3 p4 p5 B0 B1 B2 e0 e1 e2 e3 e4 e5 e6 e7 ef
  have HT1 := Lib.hid (there8 C1.out)
  go_upto_region 17 with (refine wpList_store_mid rfl 37 _ _ rfl (w.heap.size + 1) 0 #[.int .i64 op, .string acct, .string ⟨#[]⟩, .string hold, .string trace, .string (om), .int .i64 amount, .int .i64 0] rfl rfl HT1.out sizeReq (one8 ..) ?_; generalize hV0 : World.setCells _ _ _ _ = V0)
  have bV0 : bk V0 (w.heap.size + 1) 37 [.int .i64 op, .string acct, .string ⟨#[]⟩, .string hold, .string trace, .string (om), .int .i64 amount, .int .i64 0] := by rw [← hV0]; exact set8_bk C1.out (.int .i64 op) (.string acct) (.string ⟨#[]⟩) (.string hold) (.string trace) (.string (om)) (.int .i64 amount) (.int .i64 0)
  have tV0 : Turned (w.heap.size + 1) (w.heap.size + 1 + 1) w1 V0 := by rw [← hV0]; exact set8_turned w1 (w.heap.size + 1) (.int .i64 op) (.string acct) (.string ⟨#[]⟩) (.string hold) (.string trace) (.string (om)) (.int .i64 amount) (.int .i64 0)
  clear hV0 HT1 C1
  have zv := tV0.size
  have C9 := Lib.hid (C9.out.under tV0 (by omega))
  have q9 := C9.out.cell 5
  have e9 := bV0.cell 7
  have f9 := bV0.frozen 7
  go_upto_region 22 with fail
  obtain ⟨V1, hV⟩ : ∃ V, V = V0.setCell ⟨w.heap.size + 1, 7, none⟩ (.int .i64 ttl) := ⟨_, rfl⟩
  have bV : bk V1 (w.heap.size + 1) 37 [.int .i64 op, .string acct, .string ⟨#[]⟩, .string hold, .string trace, .string (om), .int .i64 amount, .int .i64 ttl] := by rw [hV]; exact bV0.set 7 (.int .i64 ttl)
  have tV : Turned (w.heap.size + 1) (w.heap.size + 1 + 1) w1 V1 := by rw [hV]; exact tV0.set (b := w.heap.size + 1) 7 (.int .i64 ttl) (by omega) (by omega)
  rw [← hV]
  clear hV q9 e9 f9 tV0 bV0 C9
  have z2 := tV.size
  have HB2 : Hid (Below w.heap.size w V1) := Lib.hid (HB1.out.trans (tV.below (B := w.heap.size) (by omega) (by omega)))
  have C2 := Lib.hid (C0.out.under tV (by omega))
  have HT2 := Lib.hid (there8 C2.out)
  clear tV C0 HB1
  have HLD := Lib.hid (load8r bV)
  clear bV
  go_wp2_with (first | (refine wpList_load_mid rfl 37 _ rfl (w.heap.size + 1) 0 rfl [.int .i64 op, .string acct, .string ⟨#[]⟩, .string hold, .string trace, .string (om), .int .i64 amount, .int .i64 ttl] _ HLD.out Tryz.underlying37 rfl sizeReq ?_) | (refine wpList_store_mid rfl 37 _ _ rfl w.heap.size 0 #[.int .i64 op, .string acct, .string ⟨#[]⟩, .string hold, .string trace, .string (om), .int .i64 amount, .int .i64 ttl] rfl rfl HT2.out sizeReq (one8 ..) ?_; generalize hV2 : World.setCells _ _ _ _ = V2))
  have bV2 : bk V2 w.heap.size 37 [.int .i64 op, .string acct, .string ⟨#[]⟩, .string hold, .string trace, .string (om), .int .i64 amount, .int .i64 ttl] := by rw [← hV2]; exact set8_bk C2.out (.int .i64 op) (.string acct) (.string ⟨#[]⟩) (.string hold) (.string trace) (.string (om)) (.int .i64 amount) (.int .i64 ttl)
  have tV2 : Turned w.heap.size (w.heap.size + 1) V1 V2 := by rw [← hV2]; exact set8_turned V1 w.heap.size (.int .i64 op) (.string acct) (.string ⟨#[]⟩) (.string hold) (.string trace) (.string (om)) (.int .i64 amount) (.int .i64 ttl)
  have HB3 : Hid (Below w.heap.size w V2) := Lib.hid (HB2.out.trans (tV2.below (B := w.heap.size) (by omega) (by omega)))
  obtain ⟨⟨f0, f1, f2, f3, f4, f5, f6, f7⟩, -⟩ := bV2.eight
  exact bodyPost_ret (v := .agg #[.int .i64 op, .string acct, .string ⟨#[]⟩, .string hold, .string trace, .string (om), .int .i64 amount, .int .i64 ttl]) (by simp [results, Tryz.results35, go_sem, f0, f1, f2, f3, f4, f5, f6, f7]) rfl ⟨rfl, HB3.out⟩
set_option maxRecDepth 100000 in
set_option maxHeartbeats 1000000 in
theorem reqOf_move (op : Int) (acct trace hold other : ByteArray) (w : World) (hO : opsIn w) :
    Calls Tryz.prog 35 #[.iface 93 (.agg #[.int .i64 op, .string acct, .string trace, .string hold, .string other])] w fun e w' => e = .returned (.agg #[.int .i64 op, .string acct, .string other, .string hold, .string trace, .string (opTxt 0 op), .int .i64 0, .int .i64 0]) ∧ Below w.heap.size w w' := by
  have haplain := as_move_plain op acct trace hold other
  have hafree := as_move_free op acct trace hold other
  have haamt := as_move_amt op acct trace hold other
  have haauth := as_move_auth op acct trace hold other
  have hamove := as_move_move op acct trace hold other
  have HM := Lib.hid (fun V (hV : Below w.heap.size w V) => reqOf_free op acct trace hold V (hO.below hV))
  generalize opTxt 0 op = om at HM ⊢
  clear hO
  go_enter Tryz.func35, Tryz.ntmps35
  go_upto_region 20 with fail
  obtain ⟨W, hW⟩ : ∃ W, W = ((w.alloc (.cells #[.int .i64 0, .string ⟨#[]⟩, .string ⟨#[]⟩, .string ⟨#[]⟩, .string ⟨#[]⟩, .string ⟨#[]⟩, .int .i64 0, .int .i64 0] 37)).alloc (.cells #[.int .i64 0, .string ⟨#[]⟩, .string ⟨#[]⟩, .string ⟨#[]⟩, .string ⟨#[]⟩, .string ⟨#[]⟩, .int .i64 0, .int .i64 0] 37)).alloc (.cells #[.int .i64 op, .string acct, .string trace, .string hold, .string other] 93) := ⟨_, rfl⟩
  have b0 : bk W w.heap.size 37 [.int .i64 0, .string ⟨#[]⟩, .string ⟨#[]⟩, .string ⟨#[]⟩, .string ⟨#[]⟩, .string ⟨#[]⟩, .int .i64 0, .int .i64 0] := by rw [hW]; have h0 := bk.new w 37 [.int .i64 0, .string ⟨#[]⟩, .string ⟨#[]⟩, .string ⟨#[]⟩, .string ⟨#[]⟩, .string ⟨#[]⟩, .int .i64 0, .int .i64 0]; simpa using (h0.alloc _).alloc _
  have b1 : bk W (w.heap.size + 1) 37 [.int .i64 0, .string ⟨#[]⟩, .string ⟨#[]⟩, .string ⟨#[]⟩, .string ⟨#[]⟩, .string ⟨#[]⟩, .int .i64 0, .int .i64 0] := by rw [hW]; have h0 := bk.new (w.alloc (.cells #[.int .i64 0, .string ⟨#[]⟩, .string ⟨#[]⟩, .string ⟨#[]⟩, .string ⟨#[]⟩, .string ⟨#[]⟩, .int .i64 0, .int .i64 0] 37)) 37 [.int .i64 0, .string ⟨#[]⟩, .string ⟨#[]⟩, .string ⟨#[]⟩, .string ⟨#[]⟩, .string ⟨#[]⟩, .int .i64 0, .int .i64 0]; simpa using h0.alloc _
  have b2 : bk W (w.heap.size + 1 + 1) 93 [.int .i64 op, .string acct, .string trace, .string hold, .string other] := by rw [hW]; have h0 := bk.new ((w.alloc (.cells #[.int .i64 0, .string ⟨#[]⟩, .string ⟨#[]⟩, .string ⟨#[]⟩, .string ⟨#[]⟩, .string ⟨#[]⟩, .int .i64 0, .int .i64 0] 37)).alloc (.cells #[.int .i64 0, .string ⟨#[]⟩, .string ⟨#[]⟩, .string ⟨#[]⟩, .string ⟨#[]⟩, .string ⟨#[]⟩, .int .i64 0, .int .i64 0] 37)) 93 [.int .i64 op, .string acct, .string trace, .string hold, .string other]; simpa using h0
  have HBW : Hid (Below w.heap.size w W) := Lib.hid (by rw [hW]; exact (((Below.refl _ _).alloc (Nat.le_refl _) _).alloc (by simp) _).alloc (by simp; omega) _)
  have z0 : w.heap.size + 3 ≤ W.heap.size := by rw [hW]; simp
  rw [← hW]
  clear hW haplain hafree haamt haauth hamove
  have B0 := Lib.hid b0
  have B1 := Lib.hid b1
  have B2 := Lib.hid b2
  clear b0 b1 b2
  have p0 := B2.out.cell 0
  have p1 := B2.out.cell 1
  have p2 := B2.out.cell 2
  have p3 := B2.out.cell 3
  have p4 := B2.out.cell 4
  go_wp2_with fail
  refine (HM.out W HBW.out).mono ?_
  rintro e w1 ⟨rfl, hb⟩
  have z1 : W.heap.size ≤ w1.heap.size := hb.size
  have HB1 : Hid (Below w.heap.size w w1) := Lib.hid (Below.trans HBW.out (hb.mono (by first | omega | (simp <;> omega))))
  have c2 := B2.out.below hb (by first | omega | (simp <;> omega))
  have C0 := Lib.hid (B0.out.below hb (by first | omega | (simp <;> omega)))
  have C1 := Lib.hid (B1.out.below hb (by first | omega | (simp <;> omega)))
  obtain ⟨⟨e0, e1, e2, e3, e4, e5, e6, e7⟩, ef⟩ := C1.out.eight
  have C9 := Lib.hid c2
  clear hb c2 p0 p1 p2 p3 p4 B0 B1 B2 e0 e1 e2 e3 e4 e5 e6 e7 ef
  have HT1 := Lib.hid (there8 C1.out)
  go_upto_region 21 with (refine wpList_store_mid rfl 37 _ _ rfl (w.heap.size + 1) 0 #[.int .i64 op, .string acct, .string ⟨#[]⟩, .string hold, .string trace, .string (om), .int .i64 0, .int .i64 0] rfl rfl HT1.out sizeReq (one8 ..) ?_; generalize hV0 : World.setCells _ _ _ _ = V0)
  have bV0 : bk V0 (w.heap.size + 1) 37 [.int .i64 op, .string acct, .string ⟨#[]⟩, .string hold, .string trace, .string (om), .int .i64 0, .int .i64 0] := by rw [← hV0]; exact set8_bk C1.out (.int .i64 op) (.string acct) (.string ⟨#[]⟩) (.string hold) (.string trace) (.string (om)) (.int .i64 0) (.int .i64 0)
  have tV0 : Turned (w.heap.size + 1) (w.heap.size + 1 + 1) w1 V0 := by rw [← hV0]; exact set8_turned w1 (w.heap.size + 1) (.int .i64 op) (.string acct) (.string ⟨#[]⟩) (.string hold) (.string trace) (.string (om)) (.int .i64 0) (.int .i64 0)
  clear hV0 HT1 C1
  have zv := tV0.size
  have C9 := Lib.hid (C9.out.under tV0 (by omega))
  have q9 := C9.out.cell 4
  have e9 := bV0.cell 2
  have f9 := bV0.frozen 2
  go_upto_region 22 with fail
  obtain ⟨V1, hV⟩ : ∃ V, V = V0.setCell ⟨w.heap.size + 1, 2, none⟩ (.string other) := ⟨_, rfl⟩
  have bV : bk V1 (w.heap.size + 1) 37 [.int .i64 op, .string acct, .string other, .string hold, .string trace, .string (om), .int .i64 0, .int .i64 0] := by rw [hV]; exact bV0.set 2 (.string other)
  have tV : Turned (w.heap.size + 1) (w.heap.size + 1 + 1) w1 V1 := by rw [hV]; exact tV0.set (b := w.heap.size + 1) 2 (.string other) (by omega) (by omega)
  rw [← hV]
  clear hV q9 e9 f9 tV0 bV0 C9
  have z2 := tV.size
  have HB2 : Hid (Below w.heap.size w V1) := Lib.hid (HB1.out.trans (tV.below (B := w.heap.size) (by omega) (by omega)))
  have C2 := Lib.hid (C0.out.under tV (by omega))
  have HT2 := Lib.hid (there8 C2.out)
  clear tV C0 HB1
  have HLD := Lib.hid (load8r bV)
  clear bV
  go_wp2_with (first | (refine wpList_load_mid rfl 37 _ rfl (w.heap.size + 1) 0 rfl [.int .i64 op, .string acct, .string other, .string hold, .string trace, .string (om), .int .i64 0, .int .i64 0] _ HLD.out Tryz.underlying37 rfl sizeReq ?_) | (refine wpList_store_mid rfl 37 _ _ rfl w.heap.size 0 #[.int .i64 op, .string acct, .string other, .string hold, .string trace, .string (om), .int .i64 0, .int .i64 0] rfl rfl HT2.out sizeReq (one8 ..) ?_; generalize hV2 : World.setCells _ _ _ _ = V2))
  have bV2 : bk V2 w.heap.size 37 [.int .i64 op, .string acct, .string other, .string hold, .string trace, .string (om), .int .i64 0, .int .i64 0] := by rw [← hV2]; exact set8_bk C2.out (.int .i64 op) (.string acct) (.string other) (.string hold) (.string trace) (.string (om)) (.int .i64 0) (.int .i64 0)
  have tV2 : Turned w.heap.size (w.heap.size + 1) V1 V2 := by rw [← hV2]; exact set8_turned V1 w.heap.size (.int .i64 op) (.string acct) (.string other) (.string hold) (.string trace) (.string (om)) (.int .i64 0) (.int .i64 0)
  have HB3 : Hid (Below w.heap.size w V2) := Lib.hid (HB2.out.trans (tV2.below (B := w.heap.size) (by omega) (by omega)))
  obtain ⟨⟨f0, f1, f2, f3, f4, f5, f6, f7⟩, -⟩ := bV2.eight
  exact bodyPost_ret (v := .agg #[.int .i64 op, .string acct, .string other, .string hold, .string trace, .string (om), .int .i64 0, .int .i64 0]) (by simp [results, Tryz.results35, go_sem, f0, f1, f2, f3, f4, f5, f6, f7]) rfl ⟨rfl, HB3.out⟩
end Go.Proofs.YtiolebpoofkpmaaGreatDoor
set_option linter.unusedVariables false
namespace Go.Proofs.YtiolebpoofkpmaaGreatDoor
open Go.ChangeShapes Go.WideShapes Go.ChangeAt Go.RowKit

set_option maxRecDepth 100000 in
theorem meth_plain (op : Int) (acct trace : ByteArray) (w : World) : (method 324 85 (.agg #[.int .i64 op, .string acct, .string trace]) "loop.example/g00735/impl.ok").run Tryz.prog w = .ok (197, .agg #[.int .i64 op, .string acct, .string trace]) w := by kernel_rfl
set_option maxRecDepth 100000 in
theorem meth_free (op : Int) (acct trace hold : ByteArray) (w : World) : (method 324 87 (.agg #[.int .i64 op, .string acct, .string trace, .string hold]) "loop.example/g00735/impl.ok").run Tryz.prog w = .ok (205, .agg #[.int .i64 op, .string acct, .string trace, .string hold]) w := by kernel_rfl
set_option maxRecDepth 100000 in
theorem meth_amt (op : Int) (acct trace hold : ByteArray) (amount : Int) (w : World) : (method 324 89 (.agg #[.int .i64 op, .string acct, .string trace, .string hold, .int .i64 amount]) "loop.example/g00735/impl.ok").run Tryz.prog w = .ok (208, .agg #[.int .i64 op, .string acct, .string trace, .string hold, .int .i64 amount]) w := by kernel_rfl
set_option maxRecDepth 100000 in
theorem meth_auth (op : Int) (acct trace hold : ByteArray) (amount : Int) (ttl : Int) (w : World) : (method 324 91 (.agg #[.int .i64 op, .string acct, .string trace, .string hold, .int .i64 amount, .int .i64 ttl]) "loop.example/g00735/impl.ok").run Tryz.prog w = .ok (210, .agg #[.int .i64 op, .string acct, .string trace, .string hold, .int .i64 amount, .int .i64 ttl]) w := by kernel_rfl
set_option maxRecDepth 100000 in
theorem meth_move (op : Int) (acct trace hold other : ByteArray) (w : World) : (method 324 93 (.agg #[.int .i64 op, .string acct, .string trace, .string hold, .string other]) "loop.example/g00735/impl.ok").run Tryz.prog w = .ok (212, .agg #[.int .i64 op, .string acct, .string trace, .string hold, .string other]) w := by kernel_rfl
end Go.Proofs.YtiolebpoofkpmaaGreatDoor
