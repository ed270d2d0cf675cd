/- ReqOf of the program, by the operation's class; the table of operations lies as Go's text lays it, errNotDigits holds an error. -/
import Derived.Test.YtiolebpoofkpmaaGreatDoorMrp19
import Derived.Test.YtiolebpoofkpmaaGreatDoorMrp12
import Derived.Test.YtiolebpoofkpmaaGreatDoorMrp11
set_option linter.unusedVariables false
namespace Go.Proofs.YtiolebpoofkpmaaGreatDoor
open Go.ChangeShapes Go.WideShapes Go.ChangeAt Go.RowKit

set_option maxRecDepth 100000 in
set_option maxHeartbeats 16000000 in
theorem implReqOf_early (hi : Nat) (v : Value) (m : MsgD) (w : World) (p : Addr) (hO : opsIn w) (hg : 1 < w.heap.size) (hce : w.cell? ⟨1, 0, none⟩ = some (.iface 207 (.pointer (some p)))) (hn : m.2.length ≤ 1048576) (h : FieldsR.rd hi w [v] m.2) (hh : hi ≤ w.heap.size) (hsm : m.1.size ≤ maxLen) (hs : ∀ x ∈ m.2, x.2.size ≤ 1048576) (hno : ¬ (msgOk m = true ∧ mtiKn m.1 = true)) :
    Calls Tryz.prog 15 #[.agg #[.string m.1, v]] w fun e w' => e = .returned (qRes (reqL m)) ∧ Below w.heap.size w w' := by
  obtain ⟨A, c, rfl, hc, h'⟩ := fields_rd h
  have hs' : ∀ x ∈ m.2, x.2.size ≤ maxLen := fun x hx => Nat.le_trans (hs x hx) (by unfold maxLen; omega)
  have HMO := Lib.hid (fun V (hV : Below w.heap.size w V) => implMsgOk_any hi (.slice A m.2.length c) m V hsm hn hs' (Rep.below (R := FieldsR) h hV hh) (Nat.le_trans hh hV.size))
  have HMK := Lib.hid (fun V => implMtiKnown_any m.1 V hsm)
  have HR : Hid (reqL m = (noQ, if msgOk m = true ∧ mtiKn m.1 = false then 2 else 1)) := Lib.hid (by
    unfold reqL
    cases h1 : msgOk m
    · simp
    cases h2 : mtiKn m.1
    · simp
    exact absurd ⟨h1, h2⟩ hno)
  clear h h' hn hh hsm hs hs' hc hO hg hce
  generalize reqL m = r at HR ⊢
  generalize msgOk m = t1 at HMO HR hno
  generalize m.2.length = n at HMO
  generalize m.1 = a at HMO HMK HR hno
  generalize mtiKn a = t2 at HMK HR hno
  go_enter Tryz.func15, Tryz.ntmps15
  go_upto_region 1 with fail
  obtain ⟨w0, hW⟩ : ∃ W, W = (w.alloc (.cells #[.string a, .slice A n c] 33)).alloc (.cells #[.int .i64 0, .string ⟨#[]⟩, .string ⟨#[]⟩, .string ⟨#[]⟩, .string ⟨#[]⟩, .string ⟨#[]⟩, .int .i64 0, .int .i64 0] 37) := ⟨_, rfl⟩
  have b0 : bk w0 w.heap.size 33 [.string a, .slice A n c] := by rw [hW]; exact (bk.new w _ _).alloc _
  have b1 : bk w0 (w.heap.size + 1) 37 [.int .i64 0, .string ⟨#[]⟩, .string ⟨#[]⟩, .string ⟨#[]⟩, .string ⟨#[]⟩, .string ⟨#[]⟩, .int .i64 0, .int .i64 0] := by rw [hW]; have h0 := bk.new (w.alloc (.cells #[.string a, .slice A n c] 33)) 37 [.int .i64 0, .string ⟨#[]⟩, .string ⟨#[]⟩, .string ⟨#[]⟩, .string ⟨#[]⟩, .string ⟨#[]⟩, .int .i64 0, .int .i64 0]; simpa using h0
  have HB : Hid (Below w.heap.size w w0) := Lib.hid (by rw [hW]; exact ((Below.refl _ _).alloc (Nat.le_refl _) _).alloc (by simp) _)
  have z0 : w.heap.size + 2 ≤ w0.heap.size := by rw [hW]; simp
  rw [← hW]
  clear hW
  have B0 := Lib.hid b0
  have B1 := Lib.hid b1
  clear b0 b1
  have b00 := B0.out.cell 0
  have b01 := B0.out.cell 1
  go_wp2_with fail
  refine (HMO.out w0 HB.out).mono ?_
  rintro e w1 ⟨rfl, hb⟩
  have z1 := hb.size
  have B0 := Lib.hid (B0.out.below hb (by omega))
  have B1 := Lib.hid (B1.out.below hb (by omega))
  have HB : Hid (Below w.heap.size w w1) := Lib.hid (HB.out.trans (hb.mono (by omega)))
  clear b00 b01 hb
  cases t1
  · have HTZ := Lib.hid (there8 B1.out)
    go_wp2_with (refine wpList_store_mid rfl 37 _ _ rfl (w.heap.size + 1) 0 #[.int .i64 0, .string ⟨#[]⟩, .string ⟨#[]⟩, .string ⟨#[]⟩, .string ⟨#[]⟩, .string ⟨#[]⟩, .int .i64 0, .int .i64 0] rfl rfl HTZ.out sizeReq (one8 ..) ?_; generalize hVZ : World.setCells _ _ _ _ = VZ)
    have bVZ : bk VZ (w.heap.size + 1) 37 [.int .i64 0, .string ⟨#[]⟩, .string ⟨#[]⟩, .string ⟨#[]⟩, .string ⟨#[]⟩, .string ⟨#[]⟩, .int .i64 0, .int .i64 0] := by rw [← hVZ]; exact set8_bk B1.out (.int .i64 0) (.string ⟨#[]⟩) (.string ⟨#[]⟩) (.string ⟨#[]⟩) (.string ⟨#[]⟩) (.string ⟨#[]⟩) (.int .i64 0) (.int .i64 0)
    have tVZ : Turned (w.heap.size + 1) (w.heap.size + 1 + 1) w1 VZ := by rw [← hVZ]; exact set8_turned w1 (w.heap.size + 1) (.int .i64 0) (.string ⟨#[]⟩) (.string ⟨#[]⟩) (.string ⟨#[]⟩) (.string ⟨#[]⟩) (.string ⟨#[]⟩) (.int .i64 0) (.int .i64 0)
    have HBZ : Hid (Below w.heap.size w VZ) := Lib.hid (HB.out.trans (tVZ.below (B := w.heap.size) (by omega) (by omega)))
    obtain ⟨⟨y0, y1, y2, y3, y4, y5, y6, y7⟩, -⟩ := bVZ.eight
    have hr := HR.out
    exact bodyPost_ret (v := .tuple #[.agg #[.int .i64 0, .string ⟨#[]⟩, .string ⟨#[]⟩, .string ⟨#[]⟩, .string ⟨#[]⟩, .string ⟨#[]⟩, .int .i64 0, .int .i64 0], .int .i64 1]) (by simp [results, Tryz.results15, go_sem, y0, y1, y2, y3, y4, y5, y6, y7]) rfl ⟨by rw [hr]; rfl, HBZ.out⟩
  have b00 := B0.out.cell 0
  go_wp2_with fail
  refine (HMK.out w1).mono ?_
  rintro e w2 ⟨rfl, hb⟩
  have z2 := hb.size
  have B0 := Lib.hid (B0.out.below hb (by omega))
  have B1 := Lib.hid (B1.out.below hb (by omega))
  have HB : Hid (Below w.heap.size w w2) := Lib.hid (HB.out.trans (hb.mono (by omega)))
  clear b00 hb
  cases t2
  · have HTZ := Lib.hid (there8 B1.out)
    go_wp2_with (refine wpList_store_mid rfl 37 _ _ rfl (w.heap.size + 1) 0 #[.int .i64 0, .string ⟨#[]⟩, .string ⟨#[]⟩, .string ⟨#[]⟩, .string ⟨#[]⟩, .string ⟨#[]⟩, .int .i64 0, .int .i64 0] rfl rfl HTZ.out sizeReq (one8 ..) ?_; generalize hVZ : World.setCells _ _ _ _ = VZ)
    have bVZ : bk VZ (w.heap.size + 1) 37 [.int .i64 0, .string ⟨#[]⟩, .string ⟨#[]⟩, .string ⟨#[]⟩, .string ⟨#[]⟩, .string ⟨#[]⟩, .int .i64 0, .int .i64 0] := by rw [← hVZ]; exact set8_bk B1.out (.int .i64 0) (.string ⟨#[]⟩) (.string ⟨#[]⟩) (.string ⟨#[]⟩) (.string ⟨#[]⟩) (.string ⟨#[]⟩) (.int .i64 0) (.int .i64 0)
    have tVZ : Turned (w.heap.size + 1) (w.heap.size + 1 + 1) w2 VZ := by rw [← hVZ]; exact set8_turned w2 (w.heap.size + 1) (.int .i64 0) (.string ⟨#[]⟩) (.string ⟨#[]⟩) (.string ⟨#[]⟩) (.string ⟨#[]⟩) (.string ⟨#[]⟩) (.int .i64 0) (.int .i64 0)
    have HBZ : Hid (Below w.heap.size w VZ) := Lib.hid (HB.out.trans (tVZ.below (B := w.heap.size) (by omega) (by omega)))
    obtain ⟨⟨y0, y1, y2, y3, y4, y5, y6, y7⟩, -⟩ := bVZ.eight
    have hr := HR.out
    exact bodyPost_ret (v := .tuple #[.agg #[.int .i64 0, .string ⟨#[]⟩, .string ⟨#[]⟩, .string ⟨#[]⟩, .string ⟨#[]⟩, .string ⟨#[]⟩, .int .i64 0, .int .i64 0], .int .i64 2]) (by simp [results, Tryz.results15, go_sem, y0, y1, y2, y3, y4, y5, y6, y7]) rfl ⟨by rw [hr]; rfl, HBZ.out⟩
  exact (hno (by simp)).elim

set_option maxRecDepth 100000 in
set_option maxHeartbeats 16000000 in
theorem implReqOf_plain (hi : Nat) (v : Value) (m : MsgD) (w : World) (p : Addr) (hO : opsIn w) (hg : 1 < w.heap.size) (hce : w.cell? ⟨1, 0, none⟩ = some (.iface 207 (.pointer (some p)))) (hn : m.2.length ≤ 1048576) (h : FieldsR.rd hi w [v] m.2) (hh : hi ≤ w.heap.size) (hsm : m.1.size ≤ maxLen) (hs : ∀ x ∈ m.2, x.2.size ≤ 1048576) (h1 : msgOk m = true) (h2 : mtiKn m.1 = true) (hop : rawOp m < 1 ∨ 6 < rawOp m) :
    Calls Tryz.prog 15 #[.agg #[.string m.1, v]] w fun e w' => e = .returned (qRes (reqL m)) ∧ Below w.heap.size w w' := by
  obtain ⟨A, c, rfl, hc, h'⟩ := fields_rd h
  have hs' : ∀ x ∈ m.2, x.2.size ≤ maxLen := fun x hx => Nat.le_trans (hs x hx) (by unfold maxLen; omega)
  have HMO := Lib.hid (fun V (hV : Below w.heap.size w V) => implMsgOk_any hi (.slice A m.2.length c) m V hsm hn hs' (Rep.below (R := FieldsR) h hV hh) (Nat.le_trans hh hV.size))
  have HMK := Lib.hid (fun V => implMtiKnown_any m.1 V hsm)
  have hsz : ∀ no, (fldTxt m.2 no).size ≤ 1048576 := fun no => txt_small hs
  have hsz' : ∀ no, (fldTxt m.2 no).size ≤ maxLen := fun no => Nat.le_trans (hsz no) (by unfold maxLen; omega)
  have HRD := Lib.hid (read_plain h1 h2 hop)
  have HRI := Lib.hid (fun rv V (hV : Below w.heap.size w V) hrq => requestIn_any hi (.slice A m.2.length c) m V p (hO.below hV) (Nat.lt_of_lt_of_le hg hV.size) ((hV.cell (p := ⟨_, 0, none⟩) hg).trans hce) hn (Rep.below (R := FieldsR) h hV hh) (Nat.le_trans hh hV.size) (fun h3 => by have := txt3 h1 h3; omega) (hsz' 3) (hsz 38) rv hrq)
  have zs2 := hsz' 2
  have zs11 := hsz' 11
  have zs38 : (bareS (fldTxt m.2 38)).size ≤ maxLen := Nat.le_trans (bare_le _) (hsz' 38)
  have zs103 := hsz' 103
  rw [h1] at HMO
  rw [h2] at HMK
  clear h h' hn hh hsm hs hs' hc hsz hsz' h1 h2 hg hce
  generalize reqL m = r at HRD ⊢
  generalize numIn (fldTxt m.2 4) = amount at HRI
  generalize numIn (fldTxt m.2 14) = ttl at HRI
  generalize bareS (fldTxt m.2 38) = hold at HRI zs38
  generalize fldTxt m.2 103 = other at HRI zs103
  generalize fldTxt m.2 2 = acct at HRI zs2 HRD
  generalize fldTxt m.2 11 = trace at HRI zs11 HRD
  generalize rawOp m = op at HRI HRD hop
  generalize m.2.length = n at HMO HRI
  generalize m.1 = a at HMO HMK HRI
  have HOK := Lib.hid (fun V (hV : Below w.heap.size w V) => plainOk_any op acct trace V (hO.below hV) zs2 zs11)
  have HRO := Lib.hid (fun V (hV : Below w.heap.size w V) => reqOf_plain op acct trace V (hO.below hV))
  have HM := Lib.hid (meth_plain op acct trace)
  have HRX := Lib.hid (fun V (hV : Below w.heap.size w V) => HRI.out _ V hV (fun V' => requestOf_plain op hop acct other hold trace ⟨#[]⟩ amount ttl V'))
  generalize opTxt 0 op = om at HRO HRD
  generalize (plainB op acct trace) = bo at HOK HRD
  clear HRI hO zs2 zs11 zs38 zs103 hop
  go_enter Tryz.func15, Tryz.ntmps15
  go_upto_region 1 with fail
  obtain ⟨w0, hW⟩ : ∃ W, W = (w.alloc (.cells #[.string a, .slice A n c] 33)).alloc (.cells #[.int .i64 0, .string ⟨#[]⟩, .string ⟨#[]⟩, .string ⟨#[]⟩, .string ⟨#[]⟩, .string ⟨#[]⟩, .int .i64 0, .int .i64 0] 37) := ⟨_, rfl⟩
  have b0 : bk w0 w.heap.size 33 [.string a, .slice A n c] := by rw [hW]; exact (bk.new w _ _).alloc _
  have b1 : bk w0 (w.heap.size + 1) 37 [.int .i64 0, .string ⟨#[]⟩, .string ⟨#[]⟩, .string ⟨#[]⟩, .string ⟨#[]⟩, .string ⟨#[]⟩, .int .i64 0, .int .i64 0] := by rw [hW]; have h0 := bk.new (w.alloc (.cells #[.string a, .slice A n c] 33)) 37 [.int .i64 0, .string ⟨#[]⟩, .string ⟨#[]⟩, .string ⟨#[]⟩, .string ⟨#[]⟩, .string ⟨#[]⟩, .int .i64 0, .int .i64 0]; simpa using h0
  have HB : Hid (Below w.heap.size w w0) := Lib.hid (by rw [hW]; exact ((Below.refl _ _).alloc (Nat.le_refl _) _).alloc (by simp) _)
  have z0 : w.heap.size + 2 ≤ w0.heap.size := by rw [hW]; simp
  rw [← hW]
  clear hW
  have B0 := Lib.hid b0
  have B1 := Lib.hid b1
  clear b0 b1
  have b00 := B0.out.cell 0
  have b01 := B0.out.cell 1
  go_wp2_with fail
  refine (HMO.out w0 HB.out).mono ?_
  rintro e w1 ⟨rfl, hb⟩
  have z1 := hb.size
  have B0 := Lib.hid (B0.out.below hb (by omega))
  have B1 := Lib.hid (B1.out.below hb (by omega))
  have HB : Hid (Below w.heap.size w w1) := Lib.hid (HB.out.trans (hb.mono (by omega)))
  clear b00 b01 hb
  have b00 := B0.out.cell 0
  go_wp2_with fail
  refine (HMK.out w1).mono ?_
  rintro e w2 ⟨rfl, hb⟩
  have z2 := hb.size
  have B0 := Lib.hid (B0.out.below hb (by omega))
  have B1 := Lib.hid (B1.out.below hb (by omega))
  have HB : Hid (Below w.heap.size w w2) := Lib.hid (HB.out.trans (hb.mono (by omega)))
  clear b00 hb
  have b00 := B0.out.cell 0
  have b01 := B0.out.cell 1
  go_wp2_with fail
  refine (HRX.out w2 HB.out).mono ?_
  rintro e w3 ⟨rfl, hb⟩
  have z3 := hb.size
  have B0 := Lib.hid (B0.out.below hb (by omega))
  have B1 := Lib.hid (B1.out.below hb (by omega))
  have HB : Hid (Below w.heap.size w w3) := Lib.hid (HB.out.trans (hb.mono (by omega)))
  clear b00 b01 hb
  go_upto_region 6 with fail
  have hm := HM.out
  go_wp2_with fail
  refine (HOK.out w3 HB.out).mono ?_
  rintro e w4 ⟨rfl, hb⟩
  have z4 := hb.size
  have B0 := Lib.hid (B0.out.below hb (by omega))
  have B1 := Lib.hid (B1.out.below hb (by omega))
  have HB : Hid (Below w.heap.size w w4) := Lib.hid (HB.out.trans (hb.mono (by omega)))
  clear hb
  cases bo
  · have HTZ := Lib.hid (there8 B1.out)
    go_wp2_with (refine wpList_store_mid rfl 37 _ _ rfl (w.heap.size + 1) 0 #[.int .i64 0, .string ⟨#[]⟩, .string ⟨#[]⟩, .string ⟨#[]⟩, .string ⟨#[]⟩, .string ⟨#[]⟩, .int .i64 0, .int .i64 0] rfl rfl HTZ.out sizeReq (one8 ..) ?_; generalize hVZ : World.setCells _ _ _ _ = VZ)
    have bVZ : bk VZ (w.heap.size + 1) 37 [.int .i64 0, .string ⟨#[]⟩, .string ⟨#[]⟩, .string ⟨#[]⟩, .string ⟨#[]⟩, .string ⟨#[]⟩, .int .i64 0, .int .i64 0] := by rw [← hVZ]; exact set8_bk B1.out (.int .i64 0) (.string ⟨#[]⟩) (.string ⟨#[]⟩) (.string ⟨#[]⟩) (.string ⟨#[]⟩) (.string ⟨#[]⟩) (.int .i64 0) (.int .i64 0)
    have tVZ : Turned (w.heap.size + 1) (w.heap.size + 1 + 1) w4 VZ := by rw [← hVZ]; exact set8_turned w4 (w.heap.size + 1) (.int .i64 0) (.string ⟨#[]⟩) (.string ⟨#[]⟩) (.string ⟨#[]⟩) (.string ⟨#[]⟩) (.string ⟨#[]⟩) (.int .i64 0) (.int .i64 0)
    have HBZ : Hid (Below w.heap.size w VZ) := Lib.hid (HB.out.trans (tVZ.below (B := w.heap.size) (by omega) (by omega)))
    obtain ⟨⟨y0, y1, y2, y3, y4, y5, y6, y7⟩, -⟩ := bVZ.eight
    have hr := HRD.out.2 (by simp)
    exact bodyPost_ret (v := .tuple #[.agg #[.int .i64 0, .string ⟨#[]⟩, .string ⟨#[]⟩, .string ⟨#[]⟩, .string ⟨#[]⟩, .string ⟨#[]⟩, .int .i64 0, .int .i64 0], .int .i64 1]) (by simp [results, Tryz.results15, go_sem, y0, y1, y2, y3, y4, y5, y6, y7]) rfl ⟨by rw [hr]; rfl, HBZ.out⟩
  go_wp2_with fail
  refine (HRO.out w4 HB.out).mono ?_
  rintro e w5 ⟨rfl, hb⟩
  have z5 := hb.size
  have B0 := Lib.hid (B0.out.below hb (by omega))
  have B1 := Lib.hid (B1.out.below hb (by omega))
  have HB : Hid (Below w.heap.size w w5) := Lib.hid (HB.out.trans (hb.mono (by omega)))
  clear hb
  have HTZ := Lib.hid (there8 B1.out)
  go_wp2_with (refine wpList_store_mid rfl 37 _ _ rfl (w.heap.size + 1) 0 #[.int .i64 op, .string acct, .string ⟨#[]⟩, .string ⟨#[]⟩, .string trace, .string om, .int .i64 0, .int .i64 0] rfl rfl HTZ.out sizeReq (one8 ..) ?_; generalize hVZ : World.setCells _ _ _ _ = VZ)
  have bVZ : bk VZ (w.heap.size + 1) 37 [.int .i64 op, .string acct, .string ⟨#[]⟩, .string ⟨#[]⟩, .string trace, .string om, .int .i64 0, .int .i64 0] := by rw [← hVZ]; exact set8_bk B1.out (.int .i64 op) (.string acct) (.string ⟨#[]⟩) (.string ⟨#[]⟩) (.string trace) (.string om) (.int .i64 0) (.int .i64 0)
  have tVZ : Turned (w.heap.size + 1) (w.heap.size + 1 + 1) w5 VZ := by rw [← hVZ]; exact set8_turned w5 (w.heap.size + 1) (.int .i64 op) (.string acct) (.string ⟨#[]⟩) (.string ⟨#[]⟩) (.string trace) (.string om) (.int .i64 0) (.int .i64 0)
  have HBZ : Hid (Below w.heap.size w VZ) := Lib.hid (HB.out.trans (tVZ.below (B := w.heap.size) (by omega) (by omega)))
  obtain ⟨⟨y0, y1, y2, y3, y4, y5, y6, y7⟩, -⟩ := bVZ.eight
  have hr := HRD.out.1 (by simp)
  exact bodyPost_ret (v := .tuple #[.agg #[.int .i64 op, .string acct, .string ⟨#[]⟩, .string ⟨#[]⟩, .string trace, .string om, .int .i64 0, .int .i64 0], .int .i64 0]) (by simp [results, Tryz.results15, go_sem, y0, y1, y2, y3, y4, y5, y6, y7]) rfl ⟨by rw [hr]; rfl, HBZ.out⟩

set_option maxRecDepth 100000 in
set_option maxHeartbeats 16000000 in
theorem implReqOf_free (hi : Nat) (v : Value) (m : MsgD) (w : World) (p : Addr) (hO : opsIn w) (hg : 1 < w.heap.size) (hce : w.cell? ⟨1, 0, none⟩ = some (.iface 207 (.pointer (some p)))) (hn : m.2.length ≤ 1048576) (h : FieldsR.rd hi w [v] m.2) (hh : hi ≤ w.heap.size) (hsm : m.1.size ≤ maxLen) (hs : ∀ x ∈ m.2, x.2.size ≤ 1048576) (h1 : msgOk m = true) (h2 : mtiKn m.1 = true) (hop : rawOp m = 5) :
    Calls Tryz.prog 15 #[.agg #[.string m.1, v]] w fun e w' => e = .returned (qRes (reqL m)) ∧ Below w.heap.size w w' := by
  obtain ⟨A, c, rfl, hc, h'⟩ := fields_rd h
  have hs' : ∀ x ∈ m.2, x.2.size ≤ maxLen := fun x hx => Nat.le_trans (hs x hx) (by unfold maxLen; omega)
  have HMO := Lib.hid (fun V (hV : Below w.heap.size w V) => implMsgOk_any hi (.slice A m.2.length c) m V hsm hn hs' (Rep.below (R := FieldsR) h hV hh) (Nat.le_trans hh hV.size))
  have HMK := Lib.hid (fun V => implMtiKnown_any m.1 V hsm)
  have hsz : ∀ no, (fldTxt m.2 no).size ≤ 1048576 := fun no => txt_small hs
  have hsz' : ∀ no, (fldTxt m.2 no).size ≤ maxLen := fun no => Nat.le_trans (hsz no) (by unfold maxLen; omega)
  have HRD := Lib.hid (read_free h1 h2 hop)
  have HRI := Lib.hid (fun rv V (hV : Below w.heap.size w V) hrq => requestIn_any hi (.slice A m.2.length c) m V p (hO.below hV) (Nat.lt_of_lt_of_le hg hV.size) ((hV.cell (p := ⟨_, 0, none⟩) hg).trans hce) hn (Rep.below (R := FieldsR) h hV hh) (Nat.le_trans hh hV.size) (fun h3 => by have := txt3 h1 h3; omega) (hsz' 3) (hsz 38) rv hrq)
  have zs2 := hsz' 2
  have zs11 := hsz' 11
  have zs38 : (bareS (fldTxt m.2 38)).size ≤ maxLen := Nat.le_trans (bare_le _) (hsz' 38)
  have zs103 := hsz' 103
  rw [h1] at HMO
  rw [h2] at HMK
  clear h h' hn hh hsm hs hs' hc hsz hsz' h1 h2 hg hce
  generalize reqL m = r at HRD ⊢
  generalize numIn (fldTxt m.2 4) = amount at HRI
  generalize numIn (fldTxt m.2 14) = ttl at HRI
  generalize bareS (fldTxt m.2 38) = hold at HRI zs38 HRD
  generalize fldTxt m.2 103 = other at HRI zs103
  generalize fldTxt m.2 2 = acct at HRI zs2 HRD
  generalize fldTxt m.2 11 = trace at HRI zs11 HRD
  generalize rawOp m = op at HRI HRD hop
  generalize m.2.length = n at HMO HRI
  generalize m.1 = a at HMO HMK HRI
  subst hop
  have HOK := Lib.hid (fun V (hV : Below w.heap.size w V) => holdOkR_any 5 acct trace hold V (hO.below hV) zs2 zs38 zs11)
  have HRO := Lib.hid (fun V (hV : Below w.heap.size w V) => reqOf_free 5 acct trace hold V (hO.below hV))
  have HM := Lib.hid (meth_free 5 acct trace hold)
  have HRX := Lib.hid (fun V (hV : Below w.heap.size w V) => HRI.out _ V hV (fun V' => requestOf_free  acct other hold trace ⟨#[]⟩ amount ttl V'))
  generalize opTxt 0 5 = om at HRO HRD
  generalize (plainB 5 acct trace && idOk hold) = bo at HOK HRD
  clear HRI hO zs2 zs11 zs38 zs103
  go_enter Tryz.func15, Tryz.ntmps15
  go_upto_region 1 with fail
  obtain ⟨w0, hW⟩ : ∃ W, W = (w.alloc (.cells #[.string a, .slice A n c] 33)).alloc (.cells #[.int .i64 0, .string ⟨#[]⟩, .string ⟨#[]⟩, .string ⟨#[]⟩, .string ⟨#[]⟩, .string ⟨#[]⟩, .int .i64 0, .int .i64 0] 37) := ⟨_, rfl⟩
  have b0 : bk w0 w.heap.size 33 [.string a, .slice A n c] := by rw [hW]; exact (bk.new w _ _).alloc _
  have b1 : bk w0 (w.heap.size + 1) 37 [.int .i64 0, .string ⟨#[]⟩, .string ⟨#[]⟩, .string ⟨#[]⟩, .string ⟨#[]⟩, .string ⟨#[]⟩, .int .i64 0, .int .i64 0] := by rw [hW]; have h0 := bk.new (w.alloc (.cells #[.string a, .slice A n c] 33)) 37 [.int .i64 0, .string ⟨#[]⟩, .string ⟨#[]⟩, .string ⟨#[]⟩, .string ⟨#[]⟩, .string ⟨#[]⟩, .int .i64 0, .int .i64 0]; simpa using h0
  have HB : Hid (Below w.heap.size w w0) := Lib.hid (by rw [hW]; exact ((Below.refl _ _).alloc (Nat.le_refl _) _).alloc (by simp) _)
  have z0 : w.heap.size + 2 ≤ w0.heap.size := by rw [hW]; simp
  rw [← hW]
  clear hW
  have B0 := Lib.hid b0
  have B1 := Lib.hid b1
  clear b0 b1
  have b00 := B0.out.cell 0
  have b01 := B0.out.cell 1
  go_wp2_with fail
  refine (HMO.out w0 HB.out).mono ?_
  rintro e w1 ⟨rfl, hb⟩
  have z1 := hb.size
  have B0 := Lib.hid (B0.out.below hb (by omega))
  have B1 := Lib.hid (B1.out.below hb (by omega))
  have HB : Hid (Below w.heap.size w w1) := Lib.hid (HB.out.trans (hb.mono (by omega)))
  clear b00 b01 hb
  have b00 := B0.out.cell 0
  go_wp2_with fail
  refine (HMK.out w1).mono ?_
  rintro e w2 ⟨rfl, hb⟩
  have z2 := hb.size
  have B0 := Lib.hid (B0.out.below hb (by omega))
  have B1 := Lib.hid (B1.out.below hb (by omega))
  have HB : Hid (Below w.heap.size w w2) := Lib.hid (HB.out.trans (hb.mono (by omega)))
  clear b00 hb
  have b00 := B0.out.cell 0
  have b01 := B0.out.cell 1
  go_wp2_with fail
  refine (HRX.out w2 HB.out).mono ?_
  rintro e w3 ⟨rfl, hb⟩
  have z3 := hb.size
  have B0 := Lib.hid (B0.out.below hb (by omega))
  have B1 := Lib.hid (B1.out.below hb (by omega))
  have HB : Hid (Below w.heap.size w w3) := Lib.hid (HB.out.trans (hb.mono (by omega)))
  clear b00 b01 hb
  go_upto_region 6 with fail
  have hm := HM.out
  go_wp2_with fail
  refine (HOK.out w3 HB.out).mono ?_
  rintro e w4 ⟨rfl, hb⟩
  have z4 := hb.size
  have B0 := Lib.hid (B0.out.below hb (by omega))
  have B1 := Lib.hid (B1.out.below hb (by omega))
  have HB : Hid (Below w.heap.size w w4) := Lib.hid (HB.out.trans (hb.mono (by omega)))
  clear hb
  cases bo
  · have HTZ := Lib.hid (there8 B1.out)
    go_wp2_with (refine wpList_store_mid rfl 37 _ _ rfl (w.heap.size + 1) 0 #[.int .i64 0, .string ⟨#[]⟩, .string ⟨#[]⟩, .string ⟨#[]⟩, .string ⟨#[]⟩, .string ⟨#[]⟩, .int .i64 0, .int .i64 0] rfl rfl HTZ.out sizeReq (one8 ..) ?_; generalize hVZ : World.setCells _ _ _ _ = VZ)
    have bVZ : bk VZ (w.heap.size + 1) 37 [.int .i64 0, .string ⟨#[]⟩, .string ⟨#[]⟩, .string ⟨#[]⟩, .string ⟨#[]⟩, .string ⟨#[]⟩, .int .i64 0, .int .i64 0] := by rw [← hVZ]; exact set8_bk B1.out (.int .i64 0) (.string ⟨#[]⟩) (.string ⟨#[]⟩) (.string ⟨#[]⟩) (.string ⟨#[]⟩) (.string ⟨#[]⟩) (.int .i64 0) (.int .i64 0)
    have tVZ : Turned (w.heap.size + 1) (w.heap.size + 1 + 1) w4 VZ := by rw [← hVZ]; exact set8_turned w4 (w.heap.size + 1) (.int .i64 0) (.string ⟨#[]⟩) (.string ⟨#[]⟩) (.string ⟨#[]⟩) (.string ⟨#[]⟩) (.string ⟨#[]⟩) (.int .i64 0) (.int .i64 0)
    have HBZ : Hid (Below w.heap.size w VZ) := Lib.hid (HB.out.trans (tVZ.below (B := w.heap.size) (by omega) (by omega)))
    obtain ⟨⟨y0, y1, y2, y3, y4, y5, y6, y7⟩, -⟩ := bVZ.eight
    have hr := HRD.out.2 (by simp)
    exact bodyPost_ret (v := .tuple #[.agg #[.int .i64 0, .string ⟨#[]⟩, .string ⟨#[]⟩, .string ⟨#[]⟩, .string ⟨#[]⟩, .string ⟨#[]⟩, .int .i64 0, .int .i64 0], .int .i64 1]) (by simp [results, Tryz.results15, go_sem, y0, y1, y2, y3, y4, y5, y6, y7]) rfl ⟨by rw [hr]; rfl, HBZ.out⟩
  go_wp2_with fail
  refine (HRO.out w4 HB.out).mono ?_
  rintro e w5 ⟨rfl, hb⟩
  have z5 := hb.size
  have B0 := Lib.hid (B0.out.below hb (by omega))
  have B1 := Lib.hid (B1.out.below hb (by omega))
  have HB : Hid (Below w.heap.size w w5) := Lib.hid (HB.out.trans (hb.mono (by omega)))
  clear hb
  have HTZ := Lib.hid (there8 B1.out)
  go_wp2_with (refine wpList_store_mid rfl 37 _ _ rfl (w.heap.size + 1) 0 #[.int .i64 5, .string acct, .string ⟨#[]⟩, .string hold, .string trace, .string om, .int .i64 0, .int .i64 0] rfl rfl HTZ.out sizeReq (one8 ..) ?_; generalize hVZ : World.setCells _ _ _ _ = VZ)
  have bVZ : bk VZ (w.heap.size + 1) 37 [.int .i64 5, .string acct, .string ⟨#[]⟩, .string hold, .string trace, .string om, .int .i64 0, .int .i64 0] := by rw [← hVZ]; exact set8_bk B1.out (.int .i64 5) (.string acct) (.string ⟨#[]⟩) (.string hold) (.string trace) (.string om) (.int .i64 0) (.int .i64 0)
  have tVZ : Turned (w.heap.size + 1) (w.heap.size + 1 + 1) w5 VZ := by rw [← hVZ]; exact set8_turned w5 (w.heap.size + 1) (.int .i64 5) (.string acct) (.string ⟨#[]⟩) (.string hold) (.string trace) (.string om) (.int .i64 0) (.int .i64 0)
  have HBZ : Hid (Below w.heap.size w VZ) := Lib.hid (HB.out.trans (tVZ.below (B := w.heap.size) (by omega) (by omega)))
  obtain ⟨⟨y0, y1, y2, y3, y4, y5, y6, y7⟩, -⟩ := bVZ.eight
  have hr := HRD.out.1 (by simp)
  exact bodyPost_ret (v := .tuple #[.agg #[.int .i64 5, .string acct, .string ⟨#[]⟩, .string hold, .string trace, .string om, .int .i64 0, .int .i64 0], .int .i64 0]) (by simp [results, Tryz.results15, go_sem, y0, y1, y2, y3, y4, y5, y6, y7]) rfl ⟨by rw [hr]; rfl, HBZ.out⟩

set_option maxRecDepth 100000 in
set_option maxHeartbeats 16000000 in
theorem implReqOf_amt (hi : Nat) (v : Value) (m : MsgD) (w : World) (p : Addr) (hO : opsIn w) (hg : 1 < w.heap.size) (hce : w.cell? ⟨1, 0, none⟩ = some (.iface 207 (.pointer (some p)))) (hn : m.2.length ≤ 1048576) (h : FieldsR.rd hi w [v] m.2) (hh : hi ≤ w.heap.size) (hsm : m.1.size ≤ maxLen) (hs : ∀ x ∈ m.2, x.2.size ≤ 1048576) (h1 : msgOk m = true) (h2 : mtiKn m.1 = true) (hop : rawOp m = 2 ∨ rawOp m = 3 ∨ rawOp m = 4) :
    Calls Tryz.prog 15 #[.agg #[.string m.1, v]] w fun e w' => e = .returned (qRes (reqL m)) ∧ Below w.heap.size w w' := by
  obtain ⟨A, c, rfl, hc, h'⟩ := fields_rd h
  have hs' : ∀ x ∈ m.2, x.2.size ≤ maxLen := fun x hx => Nat.le_trans (hs x hx) (by unfold maxLen; omega)
  have HMO := Lib.hid (fun V (hV : Below w.heap.size w V) => implMsgOk_any hi (.slice A m.2.length c) m V hsm hn hs' (Rep.below (R := FieldsR) h hV hh) (Nat.le_trans hh hV.size))
  have HMK := Lib.hid (fun V => implMtiKnown_any m.1 V hsm)
  have hsz : ∀ no, (fldTxt m.2 no).size ≤ 1048576 := fun no => txt_small hs
  have hsz' : ∀ no, (fldTxt m.2 no).size ≤ maxLen := fun no => Nat.le_trans (hsz no) (by unfold maxLen; omega)
  have HRD := Lib.hid (read_amt h1 h2 hop)
  have HRI := Lib.hid (fun rv V (hV : Below w.heap.size w V) hrq => requestIn_any hi (.slice A m.2.length c) m V p (hO.below hV) (Nat.lt_of_lt_of_le hg hV.size) ((hV.cell (p := ⟨_, 0, none⟩) hg).trans hce) hn (Rep.below (R := FieldsR) h hV hh) (Nat.le_trans hh hV.size) (fun h3 => by have := txt3 h1 h3; omega) (hsz' 3) (hsz 38) rv hrq)
  have zs2 := hsz' 2
  have zs11 := hsz' 11
  have zs38 : (bareS (fldTxt m.2 38)).size ≤ maxLen := Nat.le_trans (bare_le _) (hsz' 38)
  have zs103 := hsz' 103
  rw [h1] at HMO
  rw [h2] at HMK
  clear h h' hn hh hsm hs hs' hc hsz hsz' h1 h2 hg hce
  generalize reqL m = r at HRD ⊢
  generalize numIn (fldTxt m.2 4) = amount at HRI HRD
  generalize numIn (fldTxt m.2 14) = ttl at HRI
  generalize bareS (fldTxt m.2 38) = hold at HRI zs38 HRD
  generalize fldTxt m.2 103 = other at HRI zs103
  generalize fldTxt m.2 2 = acct at HRI zs2 HRD
  generalize fldTxt m.2 11 = trace at HRI zs11 HRD
  generalize rawOp m = op at HRI HRD hop
  generalize m.2.length = n at HMO HRI
  generalize m.1 = a at HMO HMK HRI
  have HOK := Lib.hid (fun V (hV : Below w.heap.size w V) => amtOkR_any op acct trace hold amount V (hO.below hV) zs2 zs38 zs11)
  have HRO := Lib.hid (fun V (hV : Below w.heap.size w V) => reqOf_amt op acct trace hold amount V (hO.below hV))
  have HM := Lib.hid (meth_amt op acct trace hold amount)
  have HRX := Lib.hid (fun V (hV : Below w.heap.size w V) => HRI.out _ V hV (fun V' => requestOf_amt op hop acct other hold trace ⟨#[]⟩ amount ttl V'))
  generalize opTxt 0 op = om at HRO HRD
  generalize ((plainB op acct trace && idOk hold) && decide (0 ≤ amount ∧ amount ≤ 999999999999)) = bo at HOK HRD
  clear HRI hO zs2 zs11 zs38 zs103 hop
  go_enter Tryz.func15, Tryz.ntmps15
  go_upto_region 1 with fail
  obtain ⟨w0, hW⟩ : ∃ W, W = (w.alloc (.cells #[.string a, .slice A n c] 33)).alloc (.cells #[.int .i64 0, .string ⟨#[]⟩, .string ⟨#[]⟩, .string ⟨#[]⟩, .string ⟨#[]⟩, .string ⟨#[]⟩, .int .i64 0, .int .i64 0] 37) := ⟨_, rfl⟩
  have b0 : bk w0 w.heap.size 33 [.string a, .slice A n c] := by rw [hW]; exact (bk.new w _ _).alloc _
  have b1 : bk w0 (w.heap.size + 1) 37 [.int .i64 0, .string ⟨#[]⟩, .string ⟨#[]⟩, .string ⟨#[]⟩, .string ⟨#[]⟩, .string ⟨#[]⟩, .int .i64 0, .int .i64 0] := by rw [hW]; have h0 := bk.new (w.alloc (.cells #[.string a, .slice A n c] 33)) 37 [.int .i64 0, .string ⟨#[]⟩, .string ⟨#[]⟩, .string ⟨#[]⟩, .string ⟨#[]⟩, .string ⟨#[]⟩, .int .i64 0, .int .i64 0]; simpa using h0
  have HB : Hid (Below w.heap.size w w0) := Lib.hid (by rw [hW]; exact ((Below.refl _ _).alloc (Nat.le_refl _) _).alloc (by simp) _)
  have z0 : w.heap.size + 2 ≤ w0.heap.size := by rw [hW]; simp
  rw [← hW]
  clear hW
  have B0 := Lib.hid b0
  have B1 := Lib.hid b1
  clear b0 b1
  have b00 := B0.out.cell 0
  have b01 := B0.out.cell 1
  go_wp2_with fail
  refine (HMO.out w0 HB.out).mono ?_
  rintro e w1 ⟨rfl, hb⟩
  have z1 := hb.size
  have B0 := Lib.hid (B0.out.below hb (by omega))
  have B1 := Lib.hid (B1.out.below hb (by omega))
  have HB : Hid (Below w.heap.size w w1) := Lib.hid (HB.out.trans (hb.mono (by omega)))
  clear b00 b01 hb
  have b00 := B0.out.cell 0
  go_wp2_with fail
  refine (HMK.out w1).mono ?_
  rintro e w2 ⟨rfl, hb⟩
  have z2 := hb.size
  have B0 := Lib.hid (B0.out.below hb (by omega))
  have B1 := Lib.hid (B1.out.below hb (by omega))
  have HB : Hid (Below w.heap.size w w2) := Lib.hid (HB.out.trans (hb.mono (by omega)))
  clear b00 hb
  have b00 := B0.out.cell 0
  have b01 := B0.out.cell 1
  go_wp2_with fail
  refine (HRX.out w2 HB.out).mono ?_
  rintro e w3 ⟨rfl, hb⟩
  have z3 := hb.size
  have B0 := Lib.hid (B0.out.below hb (by omega))
  have B1 := Lib.hid (B1.out.below hb (by omega))
  have HB : Hid (Below w.heap.size w w3) := Lib.hid (HB.out.trans (hb.mono (by omega)))
  clear b00 b01 hb
  go_upto_region 6 with fail
  have hm := HM.out
  go_wp2_with fail
  refine (HOK.out w3 HB.out).mono ?_
  rintro e w4 ⟨rfl, hb⟩
  have z4 := hb.size
  have B0 := Lib.hid (B0.out.below hb (by omega))
  have B1 := Lib.hid (B1.out.below hb (by omega))
  have HB : Hid (Below w.heap.size w w4) := Lib.hid (HB.out.trans (hb.mono (by omega)))
  clear hb
  cases bo
  · have HTZ := Lib.hid (there8 B1.out)
    go_wp2_with (refine wpList_store_mid rfl 37 _ _ rfl (w.heap.size + 1) 0 #[.int .i64 0, .string ⟨#[]⟩, .string ⟨#[]⟩, .string ⟨#[]⟩, .string ⟨#[]⟩, .string ⟨#[]⟩, .int .i64 0, .int .i64 0] rfl rfl HTZ.out sizeReq (one8 ..) ?_; generalize hVZ : World.setCells _ _ _ _ = VZ)
    have bVZ : bk VZ (w.heap.size + 1) 37 [.int .i64 0, .string ⟨#[]⟩, .string ⟨#[]⟩, .string ⟨#[]⟩, .string ⟨#[]⟩, .string ⟨#[]⟩, .int .i64 0, .int .i64 0] := by rw [← hVZ]; exact set8_bk B1.out (.int .i64 0) (.string ⟨#[]⟩) (.string ⟨#[]⟩) (.string ⟨#[]⟩) (.string ⟨#[]⟩) (.string ⟨#[]⟩) (.int .i64 0) (.int .i64 0)
    have tVZ : Turned (w.heap.size + 1) (w.heap.size + 1 + 1) w4 VZ := by rw [← hVZ]; exact set8_turned w4 (w.heap.size + 1) (.int .i64 0) (.string ⟨#[]⟩) (.string ⟨#[]⟩) (.string ⟨#[]⟩) (.string ⟨#[]⟩) (.string ⟨#[]⟩) (.int .i64 0) (.int .i64 0)
    have HBZ : Hid (Below w.heap.size w VZ) := Lib.hid (HB.out.trans (tVZ.below (B := w.heap.size) (by omega) (by omega)))
    obtain ⟨⟨y0, y1, y2, y3, y4, y5, y6, y7⟩, -⟩ := bVZ.eight
    have hr := HRD.out.2 (by simp)
    exact bodyPost_ret (v := .tuple #[.agg #[.int .i64 0, .string ⟨#[]⟩, .string ⟨#[]⟩, .string ⟨#[]⟩, .string ⟨#[]⟩, .string ⟨#[]⟩, .int .i64 0, .int .i64 0], .int .i64 1]) (by simp [results, Tryz.results15, go_sem, y0, y1, y2, y3, y4, y5, y6, y7]) rfl ⟨by rw [hr]; rfl, HBZ.out⟩
  go_wp2_with fail
  refine (HRO.out w4 HB.out).mono ?_
  rintro e w5 ⟨rfl, hb⟩
  have z5 := hb.size
  have B0 := Lib.hid (B0.out.below hb (by omega))
  have B1 := Lib.hid (B1.out.below hb (by omega))
  have HB : Hid (Below w.heap.size w w5) := Lib.hid (HB.out.trans (hb.mono (by omega)))
  clear hb
  have HTZ := Lib.hid (there8 B1.out)
  go_wp2_with (refine wpList_store_mid rfl 37 _ _ rfl (w.heap.size + 1) 0 #[.int .i64 op, .string acct, .string ⟨#[]⟩, .string hold, .string trace, .string om, .int .i64 amount, .int .i64 0] rfl rfl HTZ.out sizeReq (one8 ..) ?_; generalize hVZ : World.setCells _ _ _ _ = VZ)
  have bVZ : bk VZ (w.heap.size + 1) 37 [.int .i64 op, .string acct, .string ⟨#[]⟩, .string hold, .string trace, .string om, .int .i64 amount, .int .i64 0] := by rw [← hVZ]; exact set8_bk B1.out (.int .i64 op) (.string acct) (.string ⟨#[]⟩) (.string hold) (.string trace) (.string om) (.int .i64 amount) (.int .i64 0)
  have tVZ : Turned (w.heap.size + 1) (w.heap.size + 1 + 1) w5 VZ := by rw [← hVZ]; exact set8_turned w5 (w.heap.size + 1) (.int .i64 op) (.string acct) (.string ⟨#[]⟩) (.string hold) (.string trace) (.string om) (.int .i64 amount) (.int .i64 0)
  have HBZ : Hid (Below w.heap.size w VZ) := Lib.hid (HB.out.trans (tVZ.below (B := w.heap.size) (by omega) (by omega)))
  obtain ⟨⟨y0, y1, y2, y3, y4, y5, y6, y7⟩, -⟩ := bVZ.eight
  have hr := HRD.out.1 (by simp)
  exact bodyPost_ret (v := .tuple #[.agg #[.int .i64 op, .string acct, .string ⟨#[]⟩, .string hold, .string trace, .string om, .int .i64 amount, .int .i64 0], .int .i64 0]) (by simp [results, Tryz.results15, go_sem, y0, y1, y2, y3, y4, y5, y6, y7]) rfl ⟨by rw [hr]; rfl, HBZ.out⟩

set_option maxRecDepth 100000 in
set_option maxHeartbeats 16000000 in
theorem implReqOf_auth (hi : Nat) (v : Value) (m : MsgD) (w : World) (p : Addr) (hO : opsIn w) (hg : 1 < w.heap.size) (hce : w.cell? ⟨1, 0, none⟩ = some (.iface 207 (.pointer (some p)))) (hn : m.2.length ≤ 1048576) (h : FieldsR.rd hi w [v] m.2) (hh : hi ≤ w.heap.size) (hsm : m.1.size ≤ maxLen) (hs : ∀ x ∈ m.2, x.2.size ≤ 1048576) (h1 : msgOk m = true) (h2 : mtiKn m.1 = true) (hop : rawOp m = 1) :
    Calls Tryz.prog 15 #[.agg #[.string m.1, v]] w fun e w' => e = .returned (qRes (reqL m)) ∧ Below w.heap.size w w' := by
  obtain ⟨A, c, rfl, hc, h'⟩ := fields_rd h
  have hs' : ∀ x ∈ m.2, x.2.size ≤ maxLen := fun x hx => Nat.le_trans (hs x hx) (by unfold maxLen; omega)
  have HMO := Lib.hid (fun V (hV : Below w.heap.size w V) => implMsgOk_any hi (.slice A m.2.length c) m V hsm hn hs' (Rep.below (R := FieldsR) h hV hh) (Nat.le_trans hh hV.size))
  have HMK := Lib.hid (fun V => implMtiKnown_any m.1 V hsm)
  have hsz : ∀ no, (fldTxt m.2 no).size ≤ 1048576 := fun no => txt_small hs
  have hsz' : ∀ no, (fldTxt m.2 no).size ≤ maxLen := fun no => Nat.le_trans (hsz no) (by unfold maxLen; omega)
  have HRD := Lib.hid (read_auth h1 h2 hop)
  have HRI := Lib.hid (fun rv V (hV : Below w.heap.size w V) hrq => requestIn_any hi (.slice A m.2.length c) m V p (hO.below hV) (Nat.lt_of_lt_of_le hg hV.size) ((hV.cell (p := ⟨_, 0, none⟩) hg).trans hce) hn (Rep.below (R := FieldsR) h hV hh) (Nat.le_trans hh hV.size) (fun h3 => by have := txt3 h1 h3; omega) (hsz' 3) (hsz 38) rv hrq)
  have zs2 := hsz' 2
  have zs11 := hsz' 11
  have zs38 : (bareS (fldTxt m.2 38)).size ≤ maxLen := Nat.le_trans (bare_le _) (hsz' 38)
  have zs103 := hsz' 103
  rw [h1] at HMO
  rw [h2] at HMK
  clear h h' hn hh hsm hs hs' hc hsz hsz' h1 h2 hg hce
  generalize reqL m = r at HRD ⊢
  generalize numIn (fldTxt m.2 4) = amount at HRI HRD
  generalize numIn (fldTxt m.2 14) = ttl at HRI HRD
  generalize bareS (fldTxt m.2 38) = hold at HRI zs38 HRD
  generalize fldTxt m.2 103 = other at HRI zs103
  generalize fldTxt m.2 2 = acct at HRI zs2 HRD
  generalize fldTxt m.2 11 = trace at HRI zs11 HRD
  generalize rawOp m = op at HRI HRD hop
  generalize m.2.length = n at HMO HRI
  generalize m.1 = a at HMO HMK HRI
  subst hop
  have HOK := Lib.hid (fun V (hV : Below w.heap.size w V) => authOkR_any 1 acct trace hold amount ttl V (hO.below hV) zs2 zs38 zs11)
  have HRO := Lib.hid (fun V (hV : Below w.heap.size w V) => reqOf_auth 1 acct trace hold amount ttl V (hO.below hV))
  have HM := Lib.hid (meth_auth 1 acct trace hold amount ttl)
  have HRX := Lib.hid (fun V (hV : Below w.heap.size w V) => HRI.out _ V hV (fun V' => requestOf_auth  acct other hold trace ⟨#[]⟩ amount ttl V'))
  generalize opTxt 0 1 = om at HRO HRD
  generalize (((plainB 1 acct trace && idOk hold) && decide (0 ≤ amount ∧ amount ≤ 999999999999)) && decide (0 ≤ ttl ∧ ttl ≤ 9999)) = bo at HOK HRD
  clear HRI hO zs2 zs11 zs38 zs103
  go_enter Tryz.func15, Tryz.ntmps15
  go_upto_region 1 with fail
  obtain ⟨w0, hW⟩ : ∃ W, W = (w.alloc (.cells #[.string a, .slice A n c] 33)).alloc (.cells #[.int .i64 0, .string ⟨#[]⟩, .string ⟨#[]⟩, .string ⟨#[]⟩, .string ⟨#[]⟩, .string ⟨#[]⟩, .int .i64 0, .int .i64 0] 37) := ⟨_, rfl⟩
  have b0 : bk w0 w.heap.size 33 [.string a, .slice A n c] := by rw [hW]; exact (bk.new w _ _).alloc _
  have b1 : bk w0 (w.heap.size + 1) 37 [.int .i64 0, .string ⟨#[]⟩, .string ⟨#[]⟩, .string ⟨#[]⟩, .string ⟨#[]⟩, .string ⟨#[]⟩, .int .i64 0, .int .i64 0] := by rw [hW]; have h0 := bk.new (w.alloc (.cells #[.string a, .slice A n c] 33)) 37 [.int .i64 0, .string ⟨#[]⟩, .string ⟨#[]⟩, .string ⟨#[]⟩, .string ⟨#[]⟩, .string ⟨#[]⟩, .int .i64 0, .int .i64 0]; simpa using h0
  have HB : Hid (Below w.heap.size w w0) := Lib.hid (by rw [hW]; exact ((Below.refl _ _).alloc (Nat.le_refl _) _).alloc (by simp) _)
  have z0 : w.heap.size + 2 ≤ w0.heap.size := by rw [hW]; simp
  rw [← hW]
  clear hW
  have B0 := Lib.hid b0
  have B1 := Lib.hid b1
  clear b0 b1
  have b00 := B0.out.cell 0
  have b01 := B0.out.cell 1
  go_wp2_with fail
  refine (HMO.out w0 HB.out).mono ?_
  rintro e w1 ⟨rfl, hb⟩
  have z1 := hb.size
  have B0 := Lib.hid (B0.out.below hb (by omega))
  have B1 := Lib.hid (B1.out.below hb (by omega))
  have HB : Hid (Below w.heap.size w w1) := Lib.hid (HB.out.trans (hb.mono (by omega)))
  clear b00 b01 hb
  have b00 := B0.out.cell 0
  go_wp2_with fail
  refine (HMK.out w1).mono ?_
  rintro e w2 ⟨rfl, hb⟩
  have z2 := hb.size
  have B0 := Lib.hid (B0.out.below hb (by omega))
  have B1 := Lib.hid (B1.out.below hb (by omega))
  have HB : Hid (Below w.heap.size w w2) := Lib.hid (HB.out.trans (hb.mono (by omega)))
  clear b00 hb
  have b00 := B0.out.cell 0
  have b01 := B0.out.cell 1
  go_wp2_with fail
  refine (HRX.out w2 HB.out).mono ?_
  rintro e w3 ⟨rfl, hb⟩
  have z3 := hb.size
  have B0 := Lib.hid (B0.out.below hb (by omega))
  have B1 := Lib.hid (B1.out.below hb (by omega))
  have HB : Hid (Below w.heap.size w w3) := Lib.hid (HB.out.trans (hb.mono (by omega)))
  clear b00 b01 hb
  go_upto_region 6 with fail
  have hm := HM.out
  go_wp2_with fail
  refine (HOK.out w3 HB.out).mono ?_
  rintro e w4 ⟨rfl, hb⟩
  have z4 := hb.size
  have B0 := Lib.hid (B0.out.below hb (by omega))
  have B1 := Lib.hid (B1.out.below hb (by omega))
  have HB : Hid (Below w.heap.size w w4) := Lib.hid (HB.out.trans (hb.mono (by omega)))
  clear hb
  cases bo
  · have HTZ := Lib.hid (there8 B1.out)
    go_wp2_with (refine wpList_store_mid rfl 37 _ _ rfl (w.heap.size + 1) 0 #[.int .i64 0, .string ⟨#[]⟩, .string ⟨#[]⟩, .string ⟨#[]⟩, .string ⟨#[]⟩, .string ⟨#[]⟩, .int .i64 0, .int .i64 0] rfl rfl HTZ.out sizeReq (one8 ..) ?_; generalize hVZ : World.setCells _ _ _ _ = VZ)
    have bVZ : bk VZ (w.heap.size + 1) 37 [.int .i64 0, .string ⟨#[]⟩, .string ⟨#[]⟩, .string ⟨#[]⟩, .string ⟨#[]⟩, .string ⟨#[]⟩, .int .i64 0, .int .i64 0] := by rw [← hVZ]; exact set8_bk B1.out (.int .i64 0) (.string ⟨#[]⟩) (.string ⟨#[]⟩) (.string ⟨#[]⟩) (.string ⟨#[]⟩) (.string ⟨#[]⟩) (.int .i64 0) (.int .i64 0)
    have tVZ : Turned (w.heap.size + 1) (w.heap.size + 1 + 1) w4 VZ := by rw [← hVZ]; exact set8_turned w4 (w.heap.size + 1) (.int .i64 0) (.string ⟨#[]⟩) (.string ⟨#[]⟩) (.string ⟨#[]⟩) (.string ⟨#[]⟩) (.string ⟨#[]⟩) (.int .i64 0) (.int .i64 0)
    have HBZ : Hid (Below w.heap.size w VZ) := Lib.hid (HB.out.trans (tVZ.below (B := w.heap.size) (by omega) (by omega)))
    obtain ⟨⟨y0, y1, y2, y3, y4, y5, y6, y7⟩, -⟩ := bVZ.eight
    have hr := HRD.out.2 (by simp)
    exact bodyPost_ret (v := .tuple #[.agg #[.int .i64 0, .string ⟨#[]⟩, .string ⟨#[]⟩, .string ⟨#[]⟩, .string ⟨#[]⟩, .string ⟨#[]⟩, .int .i64 0, .int .i64 0], .int .i64 1]) (by simp [results, Tryz.results15, go_sem, y0, y1, y2, y3, y4, y5, y6, y7]) rfl ⟨by rw [hr]; rfl, HBZ.out⟩
  go_wp2_with fail
  refine (HRO.out w4 HB.out).mono ?_
  rintro e w5 ⟨rfl, hb⟩
  have z5 := hb.size
  have B0 := Lib.hid (B0.out.below hb (by omega))
  have B1 := Lib.hid (B1.out.below hb (by omega))
  have HB : Hid (Below w.heap.size w w5) := Lib.hid (HB.out.trans (hb.mono (by omega)))
  clear hb
  have HTZ := Lib.hid (there8 B1.out)
  go_wp2_with (refine wpList_store_mid rfl 37 _ _ rfl (w.heap.size + 1) 0 #[.int .i64 1, .string acct, .string ⟨#[]⟩, .string hold, .string trace, .string om, .int .i64 amount, .int .i64 ttl] rfl rfl HTZ.out sizeReq (one8 ..) ?_; generalize hVZ : World.setCells _ _ _ _ = VZ)
  have bVZ : bk VZ (w.heap.size + 1) 37 [.int .i64 1, .string acct, .string ⟨#[]⟩, .string hold, .string trace, .string om, .int .i64 amount, .int .i64 ttl] := by rw [← hVZ]; exact set8_bk B1.out (.int .i64 1) (.string acct) (.string ⟨#[]⟩) (.string hold) (.string trace) (.string om) (.int .i64 amount) (.int .i64 ttl)
  have tVZ : Turned (w.heap.size + 1) (w.heap.size + 1 + 1) w5 VZ := by rw [← hVZ]; exact set8_turned w5 (w.heap.size + 1) (.int .i64 1) (.string acct) (.string ⟨#[]⟩) (.string hold) (.string trace) (.string om) (.int .i64 amount) (.int .i64 ttl)
  have HBZ : Hid (Below w.heap.size w VZ) := Lib.hid (HB.out.trans (tVZ.below (B := w.heap.size) (by omega) (by omega)))
  obtain ⟨⟨y0, y1, y2, y3, y4, y5, y6, y7⟩, -⟩ := bVZ.eight
  have hr := HRD.out.1 (by simp)
  exact bodyPost_ret (v := .tuple #[.agg #[.int .i64 1, .string acct, .string ⟨#[]⟩, .string hold, .string trace, .string om, .int .i64 amount, .int .i64 ttl], .int .i64 0]) (by simp [results, Tryz.results15, go_sem, y0, y1, y2, y3, y4, y5, y6, y7]) rfl ⟨by rw [hr]; rfl, HBZ.out⟩

set_option maxRecDepth 100000 in
set_option maxHeartbeats 16000000 in
theorem implReqOf_move (hi : Nat) (v : Value) (m : MsgD) (w : World) (p : Addr) (hO : opsIn w) (hg : 1 < w.heap.size) (hce : w.cell? ⟨1, 0, none⟩ = some (.iface 207 (.pointer (some p)))) (hn : m.2.length ≤ 1048576) (h : FieldsR.rd hi w [v] m.2) (hh : hi ≤ w.heap.size) (hsm : m.1.size ≤ maxLen) (hs : ∀ x ∈ m.2, x.2.size ≤ 1048576) (h1 : msgOk m = true) (h2 : mtiKn m.1 = true) (hop : rawOp m = 6) :
    Calls Tryz.prog 15 #[.agg #[.string m.1, v]] w fun e w' => e = .returned (qRes (reqL m)) ∧ Below w.heap.size w w' := by
  obtain ⟨A, c, rfl, hc, h'⟩ := fields_rd h
  have hs' : ∀ x ∈ m.2, x.2.size ≤ maxLen := fun x hx => Nat.le_trans (hs x hx) (by unfold maxLen; omega)
  have HMO := Lib.hid (fun V (hV : Below w.heap.size w V) => implMsgOk_any hi (.slice A m.2.length c) m V hsm hn hs' (Rep.below (R := FieldsR) h hV hh) (Nat.le_trans hh hV.size))
  have HMK := Lib.hid (fun V => implMtiKnown_any m.1 V hsm)
  have hsz : ∀ no, (fldTxt m.2 no).size ≤ 1048576 := fun no => txt_small hs
  have hsz' : ∀ no, (fldTxt m.2 no).size ≤ maxLen := fun no => Nat.le_trans (hsz no) (by unfold maxLen; omega)
  have HRD := Lib.hid (read_move h1 h2 hop)
  have HRI := Lib.hid (fun rv V (hV : Below w.heap.size w V) hrq => requestIn_any hi (.slice A m.2.length c) m V p (hO.below hV) (Nat.lt_of_lt_of_le hg hV.size) ((hV.cell (p := ⟨_, 0, none⟩) hg).trans hce) hn (Rep.below (R := FieldsR) h hV hh) (Nat.le_trans hh hV.size) (fun h3 => by have := txt3 h1 h3; omega) (hsz' 3) (hsz 38) rv hrq)
  have zs2 := hsz' 2
  have zs11 := hsz' 11
  have zs38 : (bareS (fldTxt m.2 38)).size ≤ maxLen := Nat.le_trans (bare_le _) (hsz' 38)
  have zs103 := hsz' 103
  rw [h1] at HMO
  rw [h2] at HMK
  clear h h' hn hh hsm hs hs' hc hsz hsz' h1 h2 hg hce
  generalize reqL m = r at HRD ⊢
  generalize numIn (fldTxt m.2 4) = amount at HRI
  generalize numIn (fldTxt m.2 14) = ttl at HRI
  generalize bareS (fldTxt m.2 38) = hold at HRI zs38 HRD
  generalize fldTxt m.2 103 = other at HRI zs103 HRD
  generalize fldTxt m.2 2 = acct at HRI zs2 HRD
  generalize fldTxt m.2 11 = trace at HRI zs11 HRD
  generalize rawOp m = op at HRI HRD hop
  generalize m.2.length = n at HMO HRI
  generalize m.1 = a at HMO HMK HRI
  subst hop
  have HOK := Lib.hid (fun V (hV : Below w.heap.size w V) => moveOkR_any 6 acct trace hold other V (hO.below hV) zs2 zs38 zs11 zs103)
  have HRO := Lib.hid (fun V (hV : Below w.heap.size w V) => reqOf_move 6 acct trace hold other V (hO.below hV))
  have HM := Lib.hid (meth_move 6 acct trace hold other)
  have HRX := Lib.hid (fun V (hV : Below w.heap.size w V) => HRI.out _ V hV (fun V' => requestOf_move  acct other hold trace ⟨#[]⟩ amount ttl V'))
  generalize opTxt 0 6 = om at HRO HRD
  generalize ((plainB 6 acct trace && idOk hold) && acctIdB other) = bo at HOK HRD
  clear HRI hO zs2 zs11 zs38 zs103
  go_enter Tryz.func15, Tryz.ntmps15
  go_upto_region 1 with fail
  obtain ⟨w0, hW⟩ : ∃ W, W = (w.alloc (.cells #[.string a, .slice A n c] 33)).alloc (.cells #[.int .i64 0, .string ⟨#[]⟩, .string ⟨#[]⟩, .string ⟨#[]⟩, .string ⟨#[]⟩, .string ⟨#[]⟩, .int .i64 0, .int .i64 0] 37) := ⟨_, rfl⟩
  have b0 : bk w0 w.heap.size 33 [.string a, .slice A n c] := by rw [hW]; exact (bk.new w _ _).alloc _
  have b1 : bk w0 (w.heap.size + 1) 37 [.int .i64 0, .string ⟨#[]⟩, .string ⟨#[]⟩, .string ⟨#[]⟩, .string ⟨#[]⟩, .string ⟨#[]⟩, .int .i64 0, .int .i64 0] := by rw [hW]; have h0 := bk.new (w.alloc (.cells #[.string a, .slice A n c] 33)) 37 [.int .i64 0, .string ⟨#[]⟩, .string ⟨#[]⟩, .string ⟨#[]⟩, .string ⟨#[]⟩, .string ⟨#[]⟩, .int .i64 0, .int .i64 0]; simpa using h0
  have HB : Hid (Below w.heap.size w w0) := Lib.hid (by rw [hW]; exact ((Below.refl _ _).alloc (Nat.le_refl _) _).alloc (by simp) _)
  have z0 : w.heap.size + 2 ≤ w0.heap.size := by rw [hW]; simp
  rw [← hW]
  clear hW
  have B0 := Lib.hid b0
  have B1 := Lib.hid b1
  clear b0 b1
  have b00 := B0.out.cell 0
  have b01 := B0.out.cell 1
  go_wp2_with fail
  refine (HMO.out w0 HB.out).mono ?_
  rintro e w1 ⟨rfl, hb⟩
  have z1 := hb.size
  have B0 := Lib.hid (B0.out.below hb (by omega))
  have B1 := Lib.hid (B1.out.below hb (by omega))
  have HB : Hid (Below w.heap.size w w1) := Lib.hid (HB.out.trans (hb.mono (by omega)))
  clear b00 b01 hb
  have b00 := B0.out.cell 0
  go_wp2_with fail
  refine (HMK.out w1).mono ?_
  rintro e w2 ⟨rfl, hb⟩
  have z2 := hb.size
  have B0 := Lib.hid (B0.out.below hb (by omega))
  have B1 := Lib.hid (B1.out.below hb (by omega))
  have HB : Hid (Below w.heap.size w w2) := Lib.hid (HB.out.trans (hb.mono (by omega)))
  clear b00 hb
  have b00 := B0.out.cell 0
  have b01 := B0.out.cell 1
  go_wp2_with fail
  refine (HRX.out w2 HB.out).mono ?_
  rintro e w3 ⟨rfl, hb⟩
  have z3 := hb.size
  have B0 := Lib.hid (B0.out.below hb (by omega))
  have B1 := Lib.hid (B1.out.below hb (by omega))
  have HB : Hid (Below w.heap.size w w3) := Lib.hid (HB.out.trans (hb.mono (by omega)))
  clear b00 b01 hb
  go_upto_region 6 with fail
  have hm := HM.out
  go_wp2_with fail
  refine (HOK.out w3 HB.out).mono ?_
  rintro e w4 ⟨rfl, hb⟩
  have z4 := hb.size
  have B0 := Lib.hid (B0.out.below hb (by omega))
  have B1 := Lib.hid (B1.out.below hb (by omega))
  have HB : Hid (Below w.heap.size w w4) := Lib.hid (HB.out.trans (hb.mono (by omega)))
  clear hb
  cases bo
  · have HTZ := Lib.hid (there8 B1.out)
    go_wp2_with (refine wpList_store_mid rfl 37 _ _ rfl (w.heap.size + 1) 0 #[.int .i64 0, .string ⟨#[]⟩, .string ⟨#[]⟩, .string ⟨#[]⟩, .string ⟨#[]⟩, .string ⟨#[]⟩, .int .i64 0, .int .i64 0] rfl rfl HTZ.out sizeReq (one8 ..) ?_; generalize hVZ : World.setCells _ _ _ _ = VZ)
    have bVZ : bk VZ (w.heap.size + 1) 37 [.int .i64 0, .string ⟨#[]⟩, .string ⟨#[]⟩, .string ⟨#[]⟩, .string ⟨#[]⟩, .string ⟨#[]⟩, .int .i64 0, .int .i64 0] := by rw [← hVZ]; exact set8_bk B1.out (.int .i64 0) (.string ⟨#[]⟩) (.string ⟨#[]⟩) (.string ⟨#[]⟩) (.string ⟨#[]⟩) (.string ⟨#[]⟩) (.int .i64 0) (.int .i64 0)
    have tVZ : Turned (w.heap.size + 1) (w.heap.size + 1 + 1) w4 VZ := by rw [← hVZ]; exact set8_turned w4 (w.heap.size + 1) (.int .i64 0) (.string ⟨#[]⟩) (.string ⟨#[]⟩) (.string ⟨#[]⟩) (.string ⟨#[]⟩) (.string ⟨#[]⟩) (.int .i64 0) (.int .i64 0)
    have HBZ : Hid (Below w.heap.size w VZ) := Lib.hid (HB.out.trans (tVZ.below (B := w.heap.size) (by omega) (by omega)))
    obtain ⟨⟨y0, y1, y2, y3, y4, y5, y6, y7⟩, -⟩ := bVZ.eight
    have hr := HRD.out.2 (by simp)
    exact bodyPost_ret (v := .tuple #[.agg #[.int .i64 0, .string ⟨#[]⟩, .string ⟨#[]⟩, .string ⟨#[]⟩, .string ⟨#[]⟩, .string ⟨#[]⟩, .int .i64 0, .int .i64 0], .int .i64 1]) (by simp [results, Tryz.results15, go_sem, y0, y1, y2, y3, y4, y5, y6, y7]) rfl ⟨by rw [hr]; rfl, HBZ.out⟩
  go_wp2_with fail
  refine (HRO.out w4 HB.out).mono ?_
  rintro e w5 ⟨rfl, hb⟩
  have z5 := hb.size
  have B0 := Lib.hid (B0.out.below hb (by omega))
  have B1 := Lib.hid (B1.out.below hb (by omega))
  have HB : Hid (Below w.heap.size w w5) := Lib.hid (HB.out.trans (hb.mono (by omega)))
  clear hb
  have HTZ := Lib.hid (there8 B1.out)
  go_wp2_with (refine wpList_store_mid rfl 37 _ _ rfl (w.heap.size + 1) 0 #[.int .i64 6, .string acct, .string other, .string hold, .string trace, .string om, .int .i64 0, .int .i64 0] rfl rfl HTZ.out sizeReq (one8 ..) ?_; generalize hVZ : World.setCells _ _ _ _ = VZ)
  have bVZ : bk VZ (w.heap.size + 1) 37 [.int .i64 6, .string acct, .string other, .string hold, .string trace, .string om, .int .i64 0, .int .i64 0] := by rw [← hVZ]; exact set8_bk B1.out (.int .i64 6) (.string acct) (.string other) (.string hold) (.string trace) (.string om) (.int .i64 0) (.int .i64 0)
  have tVZ : Turned (w.heap.size + 1) (w.heap.size + 1 + 1) w5 VZ := by rw [← hVZ]; exact set8_turned w5 (w.heap.size + 1) (.int .i64 6) (.string acct) (.string other) (.string hold) (.string trace) (.string om) (.int .i64 0) (.int .i64 0)
  have HBZ : Hid (Below w.heap.size w VZ) := Lib.hid (HB.out.trans (tVZ.below (B := w.heap.size) (by omega) (by omega)))
  obtain ⟨⟨y0, y1, y2, y3, y4, y5, y6, y7⟩, -⟩ := bVZ.eight
  have hr := HRD.out.1 (by simp)
  exact bodyPost_ret (v := .tuple #[.agg #[.int .i64 6, .string acct, .string other, .string hold, .string trace, .string om, .int .i64 0, .int .i64 0], .int .i64 0]) (by simp [results, Tryz.results15, go_sem, y0, y1, y2, y3, y4, y5, y6, y7]) rfl ⟨by rw [hr]; rfl, HBZ.out⟩

end Go.Proofs.YtiolebpoofkpmaaGreatDoor
