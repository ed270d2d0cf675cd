/- ReqOf of the reference, class auth; no conditions. -/
import Derived.Test.YtiolebpoofkpmaaGreatDoorMrp12
set_option linter.unusedVariables false
namespace Go.Proofs.YtiolebpoofkpmaaGreatDoor
open Go.ChangeShapes Go.WideShapes Go.ChangeAt Go.RowKit

set_option maxRecDepth 100000 in
set_option maxHeartbeats 16000000 in
theorem specReqOf_auth (hi : Nat) (v : Value) (m : MsgD) (w : World) (hn : m.2.length ≤ 1048576) (h : FieldsR.rd hi w [v] m.2) (hh : hi ≤ w.heap.size) (hsm : m.1.size ≤ maxLen) (hs : ∀ x ∈ m.2, x.2.size ≤ 1048576) (h1 : msgOk m = true) (h2 : mtiKn m.1 = true) (h3 : fldHas m.2 3 = true) (op : Int) (hop : op = 1) (hom : opM m = op) (r : ReqD × Int)
    (hyes : (fldHas m.2 4 && fldHas m.2 14) = true → reqOk ⟨op, fldTxt m.2 2, ⟨#[]⟩, bareS (fldTxt m.2 38), fldTxt m.2 11, m.1, narVal (fldTxt m.2 4), narVal (fldTxt m.2 14)⟩ = true → r = (⟨op, fldTxt m.2 2, ⟨#[]⟩, bareS (fldTxt m.2 38), fldTxt m.2 11, m.1, narVal (fldTxt m.2 4), narVal (fldTxt m.2 14)⟩, 0)) (hno : ¬ ((fldHas m.2 4 && fldHas m.2 14) = true ∧ reqOk ⟨op, fldTxt m.2 2, ⟨#[]⟩, bareS (fldTxt m.2 38), fldTxt m.2 11, m.1, narVal (fldTxt m.2 4), narVal (fldTxt m.2 14)⟩ = true) → r = (noQ, 1)) :
    Calls Tryz.prog 13 #[.agg #[.string m.1, v]] w fun e w' => e = .returned (qRes r) ∧ Below w.heap.size w w' := by
  obtain ⟨A, c, rfl, hc, h'⟩ := fields_rd h
  have hs' : ∀ x ∈ m.2, x.2.size ≤ maxLen := fun x hx => Nat.le_trans (hs x hx) (by unfold maxLen; omega)
  have HMO := Lib.hid (fun V (hV : Below w.heap.size w V) => specMsgOk_any hi (.slice A m.2.length c) m V hsm hn hs' (Rep.below (R := FieldsR) h hV hh) (Nat.le_trans hh hV.size))
  have HMK := Lib.hid (specMtiKnown_any m.1)
  have hsz : ∀ no, (fldTxt m.2 no).size ≤ 1048576 := fun no => txt_small hs
  have hsz' : ∀ no, (fldTxt m.2 no).size ≤ maxLen := fun no => Nat.le_trans (hsz no) (by unfold maxLen; omega)
  have HF3 := Lib.hid (fun V (hV : Below w.heap.size w V) => specFieldOf_any hi (.slice A m.2.length c) m 3 V hn (Rep.below (R := FieldsR) h hV hh) (Nat.le_trans hh hV.size))
  have HF2 := Lib.hid (fun V (hV : Below w.heap.size w V) => specFieldOf_any hi (.slice A m.2.length c) m 2 V hn (Rep.below (R := FieldsR) h hV hh) (Nat.le_trans hh hV.size))
  have HF11 := Lib.hid (fun V (hV : Below w.heap.size w V) => specFieldOf_any hi (.slice A m.2.length c) m 11 V hn (Rep.below (R := FieldsR) h hV hh) (Nat.le_trans hh hV.size))
  have HF38 := Lib.hid (fun V (hV : Below w.heap.size w V) => specFieldOf_any hi (.slice A m.2.length c) m 38 V hn (Rep.below (R := FieldsR) h hV hh) (Nat.le_trans hh hV.size))
  have HF4 := Lib.hid (fun V (hV : Below w.heap.size w V) => specFieldOf_any hi (.slice A m.2.length c) m 4 V hn (Rep.below (R := FieldsR) h hV hh) (Nat.le_trans hh hV.size))
  have HF14 := Lib.hid (fun V (hV : Below w.heap.size w V) => specFieldOf_any hi (.slice A m.2.length c) m 14 V hn (Rep.below (R := FieldsR) h hV hh) (Nat.le_trans hh hV.size))
  have HWH : Hid (∀ V, Calls Tryz.prog 24 #[.string m.1, .string (fldTxt m.2 3)] V fun e w' => e = .returned (.int .i64 op) ∧ Below V.heap.size V w') := Lib.hid (fun V => by rw [← hom]; exact l11Which_any m.1 (fldTxt m.2 3) V (by have := txt3 h1 h3; omega) (hsz' 3))
  have HFB := Lib.hid (fun V => specFieldBare_any (fldTxt m.2 38) V (hsz 38))
  have hbz : (bareS (fldTxt m.2 38)).size ≤ maxLen := Nat.le_trans (bare_le _) (hsz' 38)
  have HN4 := Lib.hid (fun V => specNarrow_any (fldTxt m.2 4) V (hsz' 4))
  have HN14 := Lib.hid (fun V => specNarrow_any (fldTxt m.2 14) V (hsz' 14))
  have HRQ := Lib.hid (fun V => specReqOk_any ⟨op, fldTxt m.2 2, ⟨#[]⟩, bareS (fldTxt m.2 38), fldTxt m.2 11, m.1, narVal (fldTxt m.2 4), narVal (fldTxt m.2 14)⟩ V ⟨hsz' 2, Nat.zero_le _, hbz, hsz' 11, hsm⟩)
  have HY := Lib.hid hyes
  have HNO := Lib.hid hno
  simp only [qV, qCells] at HRQ
  rw [h1] at HMO
  rw [h2] at HMK
  rw [h3] at HF3
  clear h h' hn hh hsm hs hs' hc hsz hsz' h1 h2 h3 hom hyes hno hbz
  generalize reqOk ⟨op, fldTxt m.2 2, ⟨#[]⟩, bareS (fldTxt m.2 38), fldTxt m.2 11, m.1, narVal (fldTxt m.2 4), narVal (fldTxt m.2 14)⟩ = rq at HRQ HY HNO
  generalize fldTxt m.2 3 = f3 at HF3 HWH
  generalize bareS (fldTxt m.2 38) = hold at HFB HRQ HY HNO
  generalize fldTxt m.2 38 = f38 at HF38 HFB
  generalize narVal (fldTxt m.2 4) = n4 at HN4 HRQ HY HNO
  generalize fldTxt m.2 4 = f4 at HF4 HN4
  generalize fldHas m.2 4 = t4 at HF4 HY HNO
  generalize narVal (fldTxt m.2 14) = n14 at HN14 HRQ HY HNO
  generalize fldTxt m.2 14 = f14 at HF14 HN14
  generalize fldHas m.2 14 = t14 at HF14 HY HNO
  generalize fldTxt m.2 2 = f2 at HF2 HRQ HY HNO
  generalize fldTxt m.2 11 = f11 at HF11 HRQ HY HNO
  generalize m.2.length = n at HMO HF3 HF2 HF11 HF38 HF4 HF14
  generalize m.1 = a at HMO HMK HWH HRQ HY HNO HF3 HF2 HF11 HF38 HF4 HF14
  subst hop
  have HHU := Lib.hid (l11Hold_any 1)
  have HAU := Lib.hid (l11Amount_any 1)
  have k2 : holdU 1 = true := by decide
  have k3 : amtU 1 = true := by decide
  rw [k2] at HHU
  rw [k3] at HAU
  clear k2 k3
  go_enter Tryz.func13, Tryz.ntmps13
  go_upto_region 1 with fail
  obtain ⟨w0, hW⟩ : ∃ W, W = (w.alloc (.cells #[.string a, .slice A n c] 33)).alloc (.cells #[.int .i64 0, .string ⟨#[]⟩, .string ⟨#[]⟩, .string ⟨#[]⟩, .string ⟨#[]⟩, .string ⟨#[]⟩, .int .i64 0, .int .i64 0] 37) := ⟨_, rfl⟩
  have b0 : bk w0 w.heap.size 33 [.string a, .slice A n c] := by rw [hW]; exact (bk.new w _ _).alloc _
  have b1 : bk w0 (w.heap.size + 1) 37 [.int .i64 0, .string ⟨#[]⟩, .string ⟨#[]⟩, .string ⟨#[]⟩, .string ⟨#[]⟩, .string ⟨#[]⟩, .int .i64 0, .int .i64 0] := by rw [hW]; have h0 := bk.new (w.alloc (.cells #[.string a, .slice A n c] 33)) 37 [.int .i64 0, .string ⟨#[]⟩, .string ⟨#[]⟩, .string ⟨#[]⟩, .string ⟨#[]⟩, .string ⟨#[]⟩, .int .i64 0, .int .i64 0]; simpa using h0
  have HB : Hid (Below w.heap.size w w0) := Lib.hid (by rw [hW]; exact ((Below.refl _ _).alloc (Nat.le_refl _) _).alloc (by simp) _)
  have z0 : w.heap.size + 2 ≤ w0.heap.size := by rw [hW]; simp
  rw [← hW]
  clear hW
  have B0 := Lib.hid b0
  have B1 := Lib.hid b1
  clear b0 b1
  have b00 := B0.out.cell 0
  have b01 := B0.out.cell 1
  go_wp2_with fail
  refine (HMO.out w0 HB.out).mono ?_
  rintro e w1 ⟨rfl, hb⟩
  have z1 := hb.size
  have B0 := Lib.hid (B0.out.below hb (by omega))
  have B1 := Lib.hid (B1.out.below hb (by omega))
  have HB : Hid (Below w.heap.size w w1) := Lib.hid (HB.out.trans (hb.mono (by omega)))
  clear b00 b01 hb
  have b00 := B0.out.cell 0
  go_wp2_with fail
  refine (HMK.out w1).mono ?_
  rintro e wx ⟨rfl, rfl⟩
  clear b00
  have b00 := B0.out.cell 0
  have b01 := B0.out.cell 1
  go_wp2_with fail
  refine (HF3.out w1 HB.out).mono ?_
  rintro e w2 ⟨rfl, hb⟩
  have z2 := hb.size
  have B0 := Lib.hid (B0.out.below hb (by omega))
  have B1 := Lib.hid (B1.out.below hb (by omega))
  have HB : Hid (Below w.heap.size w w2) := Lib.hid (HB.out.trans (hb.mono (by omega)))
  clear b00 b01 hb
  have b00 := B0.out.cell 0
  have HSC : Hid (∀ V, Below w2.heap.size w2 V → V.cell? ⟨w.heap.size, 0, none⟩ = some (.string a)) := Lib.hid fun V hV => (hV.cell (p := ⟨w.heap.size, 0, none⟩) (show w.heap.size < w2.heap.size by omega)).trans (B0.out.cell 0)
  go_upto_region 8 with fail
  go_cut [6] (fun tv wx => newQ w2 [.int .i64 1, .string ⟨#[]⟩, .string ⟨#[]⟩, .string ⟨#[]⟩, .string ⟨#[]⟩, .string a, .int .i64 0, .int .i64 0] tv wx)
  case first =>
    go_region_held3 (fun V => V.cell? ⟨w.heap.size, 0, none⟩ = some (.string a)) (exact HSC.out _ (by repeat (first | (with_reducible assumption) | (with_reducible exact Below.refl _ _) | (with_reducible refine Below.drew ?_) | (with_reducible refine below_alq ?_ _) | (with_reducible refine below_set8 ?_ _ _ _ _ _ _ _ _)))) (first | (go_at_call 24; (with_reducible refine (HWH.out w2.drew).mono ?_); rintro e wC ⟨rfl, hb⟩; have eC : Below w2.heap.size w2 wC := (Below.refl _ _).drew.trans hb; have q0 := (eC.cell (p := ⟨w.heap.size, 0, none⟩) (show w.heap.size < w2.heap.size by omega)).trans b00; clear b00) | (go_at_call 24; (with_reducible refine (HWH.out (w2.alloc (Obj.cells #[.int .i64 0, .string ⟨#[]⟩, .string ⟨#[]⟩, .string ⟨#[]⟩, .string ⟨#[]⟩, .string ⟨#[]⟩, .int .i64 0, .int .i64 0] 37)).drew).mono ?_); rintro e wC ⟨rfl, hb⟩; have eC : Below w2.heap.size w2 wC := (below_drew2 w2 (Obj.cells #[.int .i64 0, .string ⟨#[]⟩, .string ⟨#[]⟩, .string ⟨#[]⟩, .string ⟨#[]⟩, .string ⟨#[]⟩, .int .i64 0, .int .i64 0] 37)).trans (hb.mono (show w2.heap.size ≤ (w2.alloc (Obj.cells #[.int .i64 0, .string ⟨#[]⟩, .string ⟨#[]⟩, .string ⟨#[]⟩, .string ⟨#[]⟩, .string ⟨#[]⟩, .int .i64 0, .int .i64 0] 37)).heap.size by simp)); have bC : bk wC w2.heap.size 37 [.int .i64 0, .string ⟨#[]⟩, .string ⟨#[]⟩, .string ⟨#[]⟩, .string ⟨#[]⟩, .string ⟨#[]⟩, .int .i64 0, .int .i64 0] := (bk.drew (bk.new w2 37 [.int .i64 0, .string ⟨#[]⟩, .string ⟨#[]⟩, .string ⟨#[]⟩, .string ⟨#[]⟩, .string ⟨#[]⟩, .int .i64 0, .int .i64 0])).below hb (show w2.heap.size < (w2.alloc (Obj.cells #[.int .i64 0, .string ⟨#[]⟩, .string ⟨#[]⟩, .string ⟨#[]⟩, .string ⟨#[]⟩, .string ⟨#[]⟩, .int .i64 0, .int .i64 0] 37)).heap.size by simp); have BC := Lib.hid bC; obtain ⟨⟨s0, s1, s2, s3, s4, s5, s6, s7⟩, sf⟩ := bC.eight; have q0 := (eC.cell (p := ⟨w.heap.size, 0, none⟩) (show w.heap.size < w2.heap.size by omega)).trans b00; clear b00 bC))
    all_goals go_wp2
    all_goals go_meet
    all_goals first | (with_reducible exact newQ.mkB BC.out eC (.int .i64 1) (.string ⟨#[]⟩) (.string ⟨#[]⟩) (.string ⟨#[]⟩) (.string ⟨#[]⟩) (.string a) (.int .i64 0) (.int .i64 0)) | (with_reducible exact newQ.mkA eC _) | exact newQ.mkB BC.out eC (.int .i64 1) (.string ⟨#[]⟩) (.string ⟨#[]⟩) (.string ⟨#[]⟩) (.string ⟨#[]⟩) (.string a) (.int .i64 0) (.int .i64 0) | exact newQ.mkA eC _
  case rest =>
    obtain ⟨b6, rfl, hb6, b6k, hb⟩ := hcut
    obtain ⟨w9, hVV⟩ : ∃ V, V = wc := ⟨_, rfl⟩
    subst hVV
    have z9 := hb.size
    clear b00 HSC
    have B0 := Lib.hid (B0.out.below hb (by omega))
    have B1 := Lib.hid (B1.out.below hb (by omega))
    have B6 := Lib.hid b6k
    have zb6 := b6k.lt
    have HB : Hid (Below w.heap.size w w9) := Lib.hid (HB.out.trans (hb.mono (by omega)))
    clear hb b6k
    have b00 := B0.out.cell 0
    have b01 := B0.out.cell 1
    go_wp2_with fail
    refine (HF2.out w9 HB.out).mono ?_
    rintro e w10 ⟨rfl, hb⟩
    have z10 := hb.size
    have B0 := Lib.hid (B0.out.below hb (by omega))
    have B1 := Lib.hid (B1.out.below hb (by omega))
    have B6 := Lib.hid (B6.out.below hb (by omega))
    have HB : Hid (Below w.heap.size w w10) := Lib.hid (HB.out.trans (hb.mono (by omega)))
    clear b00 b01 hb
    have e6 := B6.out.cell 1
    have f6 := B6.out.frozen 1
    go_upto_region 10 with fail
    obtain ⟨w11, hW⟩ : ∃ V, V = w10.setCell ⟨b6, 1, none⟩ (.string f2) := ⟨_, rfl⟩
    have hq := B6.out.set 1 (.string f2)
    have ht : Turned b6 (b6 + 1) w10 w11 := by rw [hW]; exact (Turned.refl b6 (b6 + 1) w10).set (b := b6) 1 _ (Nat.le_refl _) (Nat.lt_succ_self _)
    rw [← hW] at hq ⊢
    clear hW e6 f6
    have z11 := ht.size
    have B6 : Hid (bk w11 b6 37 [.int .i64 1, .string f2, .string ⟨#[]⟩, .string ⟨#[]⟩, .string ⟨#[]⟩, .string a, .int .i64 0, .int .i64 0]) := Lib.hid hq
    have B0 := Lib.hid (B0.out.under ht (by omega))
    have B1 := Lib.hid (B1.out.under ht (by omega))
    have HB : Hid (Below w.heap.size w w11) := Lib.hid (HB.out.trans (ht.below (B := w.heap.size) (by omega) (by omega)))
    clear hq ht
    have b00 := B0.out.cell 0
    have b01 := B0.out.cell 1
    go_wp2_with fail
    refine (HF11.out w11 HB.out).mono ?_
    rintro e w12 ⟨rfl, hb⟩
    have z12 := hb.size
    have B0 := Lib.hid (B0.out.below hb (by omega))
    have B1 := Lib.hid (B1.out.below hb (by omega))
    have B6 := Lib.hid (B6.out.below hb (by omega))
    have HB : Hid (Below w.heap.size w w12) := Lib.hid (HB.out.trans (hb.mono (by omega)))
    clear b00 b01 hb
    have e6 := B6.out.cell 4
    have f6 := B6.out.frozen 4
    go_upto_region 11 with fail
    obtain ⟨w13, hW⟩ : ∃ V, V = w12.setCell ⟨b6, 4, none⟩ (.string f11) := ⟨_, rfl⟩
    have hq := B6.out.set 4 (.string f11)
    have ht : Turned b6 (b6 + 1) w12 w13 := by rw [hW]; exact (Turned.refl b6 (b6 + 1) w12).set (b := b6) 4 _ (Nat.le_refl _) (Nat.lt_succ_self _)
    rw [← hW] at hq ⊢
    clear hW e6 f6
    have z13 := ht.size
    have B6 : Hid (bk w13 b6 37 [.int .i64 1, .string f2, .string ⟨#[]⟩, .string ⟨#[]⟩, .string f11, .string a, .int .i64 0, .int .i64 0]) := Lib.hid hq
    have B0 := Lib.hid (B0.out.under ht (by omega))
    have B1 := Lib.hid (B1.out.under ht (by omega))
    have HB : Hid (Below w.heap.size w w13) := Lib.hid (HB.out.trans (ht.below (B := w.heap.size) (by omega) (by omega)))
    clear hq ht
    have b60 := B6.out.cell 0
    go_wp2_with fail
    refine (HHU.out w13).mono ?_
    rintro e wx ⟨rfl, rfl⟩
    clear b60
    have b00 := B0.out.cell 0
    have b01 := B0.out.cell 1
    go_wp2_with fail
    refine (HF38.out w13 HB.out).mono ?_
    rintro e w14 ⟨rfl, hb⟩
    have z14 := hb.size
    have B0 := Lib.hid (B0.out.below hb (by omega))
    have B1 := Lib.hid (B1.out.below hb (by omega))
    have B6 := Lib.hid (B6.out.below hb (by omega))
    have HB : Hid (Below w.heap.size w w14) := Lib.hid (HB.out.trans (hb.mono (by omega)))
    clear b00 b01 hb
    go_wp2_with fail
    refine (HFB.out w14).mono ?_
    rintro e wx ⟨rfl, rfl⟩
    have e6 := B6.out.cell 3
    have f6 := B6.out.frozen 3
    go_upto_region 14 with fail
    obtain ⟨w15, hW⟩ : ∃ V, V = w14.setCell ⟨b6, 3, none⟩ (.string hold) := ⟨_, rfl⟩
    have hq := B6.out.set 3 (.string hold)
    have ht : Turned b6 (b6 + 1) w14 w15 := by rw [hW]; exact (Turned.refl b6 (b6 + 1) w14).set (b := b6) 3 _ (Nat.le_refl _) (Nat.lt_succ_self _)
    rw [← hW] at hq ⊢
    clear hW e6 f6
    have z15 := ht.size
    have B6 : Hid (bk w15 b6 37 [.int .i64 1, .string f2, .string ⟨#[]⟩, .string hold, .string f11, .string a, .int .i64 0, .int .i64 0]) := Lib.hid hq
    have B0 := Lib.hid (B0.out.under ht (by omega))
    have B1 := Lib.hid (B1.out.under ht (by omega))
    have HB : Hid (Below w.heap.size w w15) := Lib.hid (HB.out.trans (ht.below (B := w.heap.size) (by omega) (by omega)))
    clear hq ht
    have b60 := B6.out.cell 0
    go_wp2_with fail
    refine (HAU.out w15).mono ?_
    rintro e wx ⟨rfl, rfl⟩
    clear b60
    have b00 := B0.out.cell 0
    have b01 := B0.out.cell 1
    go_wp2_with fail
    refine (HF4.out w15 HB.out).mono ?_
    rintro e w16 ⟨rfl, hb⟩
    have z16 := hb.size
    have B0 := Lib.hid (B0.out.below hb (by omega))
    have B1 := Lib.hid (B1.out.below hb (by omega))
    have B6 := Lib.hid (B6.out.below hb (by omega))
    have HB : Hid (Below w.heap.size w w16) := Lib.hid (HB.out.trans (hb.mono (by omega)))
    clear b00 b01 hb
    go_wp2_with fail
    refine (HN4.out w16).mono ?_
    rintro e wx ⟨rfl, rfl⟩
    have e6 := B6.out.cell 6
    have f6 := B6.out.frozen 6
    go_upto_region 17 with fail
    obtain ⟨w17, hW⟩ : ∃ V, V = w16.setCell ⟨b6, 6, none⟩ (.int .i64 n4) := ⟨_, rfl⟩
    have hq := B6.out.set 6 (.int .i64 n4)
    have ht : Turned b6 (b6 + 1) w16 w17 := by rw [hW]; exact (Turned.refl b6 (b6 + 1) w16).set (b := b6) 6 _ (Nat.le_refl _) (Nat.lt_succ_self _)
    rw [← hW] at hq ⊢
    clear hW e6 f6
    have z17 := ht.size
    have B6 : Hid (bk w17 b6 37 [.int .i64 1, .string f2, .string ⟨#[]⟩, .string hold, .string f11, .string a, .int .i64 n4, .int .i64 0]) := Lib.hid hq
    have B0 := Lib.hid (B0.out.under ht (by omega))
    have B1 := Lib.hid (B1.out.under ht (by omega))
    have HB : Hid (Below w.heap.size w w17) := Lib.hid (HB.out.trans (ht.below (B := w.heap.size) (by omega) (by omega)))
    clear hq ht
    cases t4
    · have b60 := B6.out.cell 0
      have b00 := B0.out.cell 0
      have b01 := B0.out.cell 1
      go_wp2_with fail
      refine (HF14.out w17 HB.out).mono ?_
      rintro e w18 ⟨rfl, hb⟩
      have z18 := hb.size
      have B0 := Lib.hid (B0.out.below hb (by omega))
      have B1 := Lib.hid (B1.out.below hb (by omega))
      have B6 := Lib.hid (B6.out.below hb (by omega))
      have HB : Hid (Below w.heap.size w w18) := Lib.hid (HB.out.trans (hb.mono (by omega)))
      clear b60 b00 b01 hb
      go_wp2_with fail
      refine (HN14.out w18).mono ?_
      rintro e wx ⟨rfl, rfl⟩
      have e6 := B6.out.cell 7
      have f6 := B6.out.frozen 7
      go_upto_region 21 with fail
      obtain ⟨w19, hW⟩ : ∃ V, V = w18.setCell ⟨b6, 7, none⟩ (.int .i64 n14) := ⟨_, rfl⟩
      have hq := B6.out.set 7 (.int .i64 n14)
      have ht : Turned b6 (b6 + 1) w18 w19 := by rw [hW]; exact (Turned.refl b6 (b6 + 1) w18).set (b := b6) 7 _ (Nat.le_refl _) (Nat.lt_succ_self _)
      rw [← hW] at hq ⊢
      clear hW e6 f6
      have z19 := ht.size
      have B6 : Hid (bk w19 b6 37 [.int .i64 1, .string f2, .string ⟨#[]⟩, .string hold, .string f11, .string a, .int .i64 n4, .int .i64 n14]) := Lib.hid hq
      have B0 := Lib.hid (B0.out.under ht (by omega))
      have B1 := Lib.hid (B1.out.under ht (by omega))
      have HB : Hid (Below w.heap.size w w19) := Lib.hid (HB.out.trans (ht.below (B := w.heap.size) (by omega) (by omega)))
      clear hq ht
      have b60 := B6.out.cell 0
      have HTZ := Lib.hid (there8 B1.out)
      go_wp2_with (first | (refine wpList_store_mid rfl 37 _ _ rfl (w.heap.size + 1) 0 #[.int .i64 0, .string ⟨#[]⟩, .string ⟨#[]⟩, .string ⟨#[]⟩, .string ⟨#[]⟩, .string ⟨#[]⟩, .int .i64 0, .int .i64 0] rfl rfl HTZ.out sizeReq (one8 ..) ?_; generalize hVZ : World.setCells _ _ _ _ = VZ))
      have bVZ : bk VZ (w.heap.size + 1) 37 [.int .i64 0, .string ⟨#[]⟩, .string ⟨#[]⟩, .string ⟨#[]⟩, .string ⟨#[]⟩, .string ⟨#[]⟩, .int .i64 0, .int .i64 0] := by rw [← hVZ]; exact set8_bk B1.out (.int .i64 0) (.string ⟨#[]⟩) (.string ⟨#[]⟩) (.string ⟨#[]⟩) (.string ⟨#[]⟩) (.string ⟨#[]⟩) (.int .i64 0) (.int .i64 0)
      have tVZ : Turned (w.heap.size + 1) (w.heap.size + 1 + 1) w19 VZ := by rw [← hVZ]; exact set8_turned w19 (w.heap.size + 1) (.int .i64 0) (.string ⟨#[]⟩) (.string ⟨#[]⟩) (.string ⟨#[]⟩) (.string ⟨#[]⟩) (.string ⟨#[]⟩) (.int .i64 0) (.int .i64 0)
      have HBZ : Hid (Below w.heap.size w VZ) := Lib.hid (HB.out.trans (tVZ.below (B := w.heap.size) (by omega) (by omega)))
      obtain ⟨⟨y0, y1, y2, y3, y4, y5, y6, y7⟩, -⟩ := bVZ.eight
      have hr := HNO.out (by simp)
      exact bodyPost_ret (v := .tuple #[.agg #[.int .i64 0, .string ⟨#[]⟩, .string ⟨#[]⟩, .string ⟨#[]⟩, .string ⟨#[]⟩, .string ⟨#[]⟩, .int .i64 0, .int .i64 0], .int .i64 1]) (by simp [results, Tryz.results13, go_sem, y0, y1, y2, y3, y4, y5, y6, y7]) rfl ⟨by rw [hr]; rfl, HBZ.out⟩
    have b60 := B6.out.cell 0
    have b00 := B0.out.cell 0
    have b01 := B0.out.cell 1
    go_wp2_with fail
    refine (HF14.out w17 HB.out).mono ?_
    rintro e w18 ⟨rfl, hb⟩
    have z18 := hb.size
    have B0 := Lib.hid (B0.out.below hb (by omega))
    have B1 := Lib.hid (B1.out.below hb (by omega))
    have B6 := Lib.hid (B6.out.below hb (by omega))
    have HB : Hid (Below w.heap.size w w18) := Lib.hid (HB.out.trans (hb.mono (by omega)))
    clear b60 b00 b01 hb
    go_wp2_with fail
    refine (HN14.out w18).mono ?_
    rintro e wx ⟨rfl, rfl⟩
    have e6 := B6.out.cell 7
    have f6 := B6.out.frozen 7
    go_upto_region 21 with fail
    obtain ⟨w19, hW⟩ : ∃ V, V = w18.setCell ⟨b6, 7, none⟩ (.int .i64 n14) := ⟨_, rfl⟩
    have hq := B6.out.set 7 (.int .i64 n14)
    have ht : Turned b6 (b6 + 1) w18 w19 := by rw [hW]; exact (Turned.refl b6 (b6 + 1) w18).set (b := b6) 7 _ (Nat.le_refl _) (Nat.lt_succ_self _)
    rw [← hW] at hq ⊢
    clear hW e6 f6
    have z19 := ht.size
    have B6 : Hid (bk w19 b6 37 [.int .i64 1, .string f2, .string ⟨#[]⟩, .string hold, .string f11, .string a, .int .i64 n4, .int .i64 n14]) := Lib.hid hq
    have B0 := Lib.hid (B0.out.under ht (by omega))
    have B1 := Lib.hid (B1.out.under ht (by omega))
    have HB : Hid (Below w.heap.size w w19) := Lib.hid (HB.out.trans (ht.below (B := w.heap.size) (by omega) (by omega)))
    clear hq ht
    cases t14
    · have b60 := B6.out.cell 0
      have HTZ := Lib.hid (there8 B1.out)
      go_wp2_with (first | (refine wpList_store_mid rfl 37 _ _ rfl (w.heap.size + 1) 0 #[.int .i64 0, .string ⟨#[]⟩, .string ⟨#[]⟩, .string ⟨#[]⟩, .string ⟨#[]⟩, .string ⟨#[]⟩, .int .i64 0, .int .i64 0] rfl rfl HTZ.out sizeReq (one8 ..) ?_; generalize hVZ : World.setCells _ _ _ _ = VZ))
      have bVZ : bk VZ (w.heap.size + 1) 37 [.int .i64 0, .string ⟨#[]⟩, .string ⟨#[]⟩, .string ⟨#[]⟩, .string ⟨#[]⟩, .string ⟨#[]⟩, .int .i64 0, .int .i64 0] := by rw [← hVZ]; exact set8_bk B1.out (.int .i64 0) (.string ⟨#[]⟩) (.string ⟨#[]⟩) (.string ⟨#[]⟩) (.string ⟨#[]⟩) (.string ⟨#[]⟩) (.int .i64 0) (.int .i64 0)
      have tVZ : Turned (w.heap.size + 1) (w.heap.size + 1 + 1) w19 VZ := by rw [← hVZ]; exact set8_turned w19 (w.heap.size + 1) (.int .i64 0) (.string ⟨#[]⟩) (.string ⟨#[]⟩) (.string ⟨#[]⟩) (.string ⟨#[]⟩) (.string ⟨#[]⟩) (.int .i64 0) (.int .i64 0)
      have HBZ : Hid (Below w.heap.size w VZ) := Lib.hid (HB.out.trans (tVZ.below (B := w.heap.size) (by omega) (by omega)))
      obtain ⟨⟨y0, y1, y2, y3, y4, y5, y6, y7⟩, -⟩ := bVZ.eight
      have hr := HNO.out (by simp)
      exact bodyPost_ret (v := .tuple #[.agg #[.int .i64 0, .string ⟨#[]⟩, .string ⟨#[]⟩, .string ⟨#[]⟩, .string ⟨#[]⟩, .string ⟨#[]⟩, .int .i64 0, .int .i64 0], .int .i64 1]) (by simp [results, Tryz.results13, go_sem, y0, y1, y2, y3, y4, y5, y6, y7]) rfl ⟨by rw [hr]; rfl, HBZ.out⟩
    have b60 := B6.out.cell 0
    have HLQ := Lib.hid (load8r B6.out)
    have b61 := B6.out.cell 1
    have b62 := B6.out.cell 2
    have b63 := B6.out.cell 3
    have b64 := B6.out.cell 4
    have b65 := B6.out.cell 5
    have b66 := B6.out.cell 6
    have b67 := B6.out.cell 7
    go_wp2_with fail
    refine (HRQ.out w19).mono ?_
    rintro e w20 ⟨rfl, hb⟩
    have z20 := hb.size
    have B0 := Lib.hid (B0.out.below hb (by omega))
    have B1 := Lib.hid (B1.out.below hb (by omega))
    have B6 := Lib.hid (B6.out.below hb (by omega))
    have HB : Hid (Below w.heap.size w w20) := Lib.hid (HB.out.trans (hb.mono (by omega)))
    clear b60 b61 b62 b63 b64 b65 b66 b67 hb
    cases rq
    · have HTZ := Lib.hid (there8 B1.out)
      go_wp2_with (first | (refine wpList_store_mid rfl 37 _ _ rfl (w.heap.size + 1) 0 #[.int .i64 0, .string ⟨#[]⟩, .string ⟨#[]⟩, .string ⟨#[]⟩, .string ⟨#[]⟩, .string ⟨#[]⟩, .int .i64 0, .int .i64 0] rfl rfl HTZ.out sizeReq (one8 ..) ?_; generalize hVZ : World.setCells _ _ _ _ = VZ))
      have bVZ : bk VZ (w.heap.size + 1) 37 [.int .i64 0, .string ⟨#[]⟩, .string ⟨#[]⟩, .string ⟨#[]⟩, .string ⟨#[]⟩, .string ⟨#[]⟩, .int .i64 0, .int .i64 0] := by rw [← hVZ]; exact set8_bk B1.out (.int .i64 0) (.string ⟨#[]⟩) (.string ⟨#[]⟩) (.string ⟨#[]⟩) (.string ⟨#[]⟩) (.string ⟨#[]⟩) (.int .i64 0) (.int .i64 0)
      have tVZ : Turned (w.heap.size + 1) (w.heap.size + 1 + 1) w20 VZ := by rw [← hVZ]; exact set8_turned w20 (w.heap.size + 1) (.int .i64 0) (.string ⟨#[]⟩) (.string ⟨#[]⟩) (.string ⟨#[]⟩) (.string ⟨#[]⟩) (.string ⟨#[]⟩) (.int .i64 0) (.int .i64 0)
      have HBZ : Hid (Below w.heap.size w VZ) := Lib.hid (HB.out.trans (tVZ.below (B := w.heap.size) (by omega) (by omega)))
      obtain ⟨⟨y0, y1, y2, y3, y4, y5, y6, y7⟩, -⟩ := bVZ.eight
      have hr := HNO.out (by simp)
      exact bodyPost_ret (v := .tuple #[.agg #[.int .i64 0, .string ⟨#[]⟩, .string ⟨#[]⟩, .string ⟨#[]⟩, .string ⟨#[]⟩, .string ⟨#[]⟩, .int .i64 0, .int .i64 0], .int .i64 1]) (by simp [results, Tryz.results13, go_sem, y0, y1, y2, y3, y4, y5, y6, y7]) rfl ⟨by rw [hr]; rfl, HBZ.out⟩
    have HLD := Lib.hid (load8r B6.out)
    have HTZ := Lib.hid (there8 B1.out)
    go_wp2_with (first | (refine wpList_load_mid rfl 37 _ rfl b6 0 rfl [.int .i64 1, .string f2, .string ⟨#[]⟩, .string hold, .string f11, .string a, .int .i64 n4, .int .i64 n14] _ HLD.out Tryz.underlying37 rfl sizeReq ?_) | (refine wpList_store_mid rfl 37 _ _ rfl (w.heap.size + 1) 0 #[.int .i64 1, .string f2, .string ⟨#[]⟩, .string hold, .string f11, .string a, .int .i64 n4, .int .i64 n14] rfl rfl HTZ.out sizeReq (one8 ..) ?_; generalize hVZ : World.setCells _ _ _ _ = VZ))
    have bVZ : bk VZ (w.heap.size + 1) 37 [.int .i64 1, .string f2, .string ⟨#[]⟩, .string hold, .string f11, .string a, .int .i64 n4, .int .i64 n14] := by rw [← hVZ]; exact set8_bk B1.out (.int .i64 1) (.string f2) (.string ⟨#[]⟩) (.string hold) (.string f11) (.string a) (.int .i64 n4) (.int .i64 n14)
    have tVZ : Turned (w.heap.size + 1) (w.heap.size + 1 + 1) w20 VZ := by rw [← hVZ]; exact set8_turned w20 (w.heap.size + 1) (.int .i64 1) (.string f2) (.string ⟨#[]⟩) (.string hold) (.string f11) (.string a) (.int .i64 n4) (.int .i64 n14)
    have HBZ : Hid (Below w.heap.size w VZ) := Lib.hid (HB.out.trans (tVZ.below (B := w.heap.size) (by omega) (by omega)))
    obtain ⟨⟨y0, y1, y2, y3, y4, y5, y6, y7⟩, -⟩ := bVZ.eight
    have hr := HY.out (by simp) (by simp)
    exact bodyPost_ret (v := .tuple #[.agg #[.int .i64 1, .string f2, .string ⟨#[]⟩, .string hold, .string f11, .string a, .int .i64 n4, .int .i64 n14], .int .i64 0]) (by simp [results, Tryz.results13, go_sem, y0, y1, y2, y3, y4, y5, y6, y7]) rfl ⟨by rw [hr]; rfl, HBZ.out⟩

end Go.Proofs.YtiolebpoofkpmaaGreatDoor
