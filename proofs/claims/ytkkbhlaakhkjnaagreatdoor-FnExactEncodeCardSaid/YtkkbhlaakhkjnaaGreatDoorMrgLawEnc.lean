/- FnExactEncode: for every argument the law answers true: the program's function returns what the reference returns; the listed package variables hold what the program's text lays (tied). -/
import Derived.Test.YtkkbhlaakhkjnaaGreatDoorPost
import Derived.Test.YtkkbhlaakhkjnaaGreatDoorOpenMsg
import Derived.Test.YtkkbhlaakhkjnaaGreatDoorCards
import Derived.Test.YtkkbhlaakhkjnaaGreatDoorTie
import Derived.Stop.LaidErr
import Derived.LaidMore
import Derived.Stop.Joined
import Derived.SevenTiedAt
import Derived.WalkSmall
import Derived.Lib.LaidTab
import Derived.Lib.ItoaNum
import Derived.Test.YtkkbhlaakhkjnaaGreatDoorMrg2
import Derived.Test.YtkkbhlaakhkjnaaGreatDoorMrg4
import Derived.Test.YtkkbhlaakhkjnaaGreatDoorNumsB
import Derived.Test.YtkkbhlaakhkjnaaGreatDoorDoorZ
namespace Go.Proofs.YtkkbhlaakhkjnaaGreatDoor.fnExactEncode
open Go.ChangeShapes Go.WideShapes Go.ChangeAt Go.RowKit
open Go.WideMaps Go.WideElems
open Go.ChangeMaps (open_string shut_string)
set_option linter.unusedVariables false

set_option maxRecDepth 100000 in
set_option maxHeartbeats 8000000 in
theorem walk (w : World) (p0 : Addr) (hc0 : w.cell? ⟨1, 0, none⟩ = some (.iface 183 (.pointer (some p0)))) (htab : Lib.TabIs Tryz.prog w "internal/strconv.uint64pow10" .u64 Lib.pow10Tab) (m0 : MsgD) (u0 : Value) (w0 : FieldsR.rd w.heap.size w [u0] m0.2) (z0 : m0.1.size ≤ maxLen) (n0 : m0.2.length ≤ maxLen) (y0 : ∀ x ∈ m0.2, (Lit.int .i64 x.1).wf = true ∧ x.2.size ≤ maxLen) :
    Calls Tryz.prog 3 #[.agg #[.string m0.1, u0]] w fun e w' => e = .returned (.bool true) ∧ Below w.heap.size w w' := by
  obtain ⟨AM0, cM0, rfl, -⟩ := Rep.slice_form w0
  have HM0 := Lib.hid w0
  have HN0 := Lib.hid n0
  have HZ0 := Lib.hid z0
  have HY0 : Hid (∀ x ∈ m0.2, x.2.size ≤ maxLen) := Lib.hid (fun x hx => (y0 x hx).2)
  have HI0 : Hid (∀ x ∈ m0.2, (Lit.int .i64 x.1).wf = true) := Lib.hid (fun x hx => (y0 x hx).1)
  have HB0 : Hid (Below w.heap.size w (w.alloc (.cells #[.string m0.1, .slice AM0 m0.2.length cM0] 24))) := Lib.hid ((Below.refl w.heap.size w).alloc (Nat.le_refl _) (.cells #[.string m0.1, .slice AM0 m0.2.length cM0] 24))
  have HX : Hid (∀ wr, Below (w.heap.size + 1) (w.alloc (.cells #[.string m0.1, .slice AM0 m0.2.length cM0] 24)) wr → wr.cell? ⟨w.heap.size, 0, none⟩ = some (.string m0.1) ∧ wr.cell? ⟨w.heap.size, 1, none⟩ = some (.slice AM0 m0.2.length cM0)) := Lib.hid fun wr hw => ⟨(hw.cell (p := ⟨w.heap.size, 0, none⟩) (show w.heap.size < _ by omega)).trans (by simp), (hw.cell (p := ⟨w.heap.size, 1, none⟩) (show w.heap.size < _ by omega)).trans (by simp)⟩
  clear w0 z0 n0 y0
  have hgt := tab_lt htab
  have HT : Hid (∀ w', Below w.heap.size w w' → Lib.TabIs Tryz.prog w' "internal/strconv.uint64pow10" .u64 Lib.pow10Tab) := Lib.hid fun w' h => var?_below h (by kernel_rfl) hgt htab
  clear hc0 htab
  go_enter Tryz.func3, Tryz.ntmps3
  go_wp2_with fail
  replace HM0 := Lib.hid (Rep.below (R := FieldsR) HM0.out HB0.out (Nat.le_refl _))
  refine (szMsg_any w.heap.size _ m0 1048576 _ HN0.out HZ0.out HY0.out HM0.out (by first | omega | (simp <;> omega)) (by omega) (by omega)).mono ?_
  rintro e w1 ⟨r0, rfl, hr0, hb1⟩
  have z1 : w.heap.size + 1 ≤ w1.heap.size := by have := hb1.size; simp at this; omega
  have hB1 : Below (w.heap.size + 1) (w.alloc (.cells #[.string m0.1, .slice AM0 m0.2.length cM0] 24)) w1 := hb1.mono (by simp <;> omega)
  rcases hr0 with rfl | ⟨hr0, hp0⟩
  · go_wp2
    go_ret
    exact ⟨rfl, (HB0.out.trans (hB1.mono (by omega)))⟩
  have hsz0 : msgSz m0 ≤ 1048576 := by omega
  have hl0 : m0.2.length ≤ 1048576 := by unfold msgSz fieldsSz at hsz0; omega
  have ht0 : m0.1.size ≤ 1048576 := by unfold msgSz at hsz0; omega
  have HS0 : Hid (∀ x ∈ m0.2, x.2.size ≤ 1048576) := Lib.hid (fun x hx => by have := le_sum (fun y : FieldD => y.2.size) hx; unfold msgSz fieldsSz at hsz0; omega)
  have hq0 : r0 ≤ 1048576 := by omega
  replace HM0 := Lib.hid (Rep.below (R := FieldsR) HM0.out (hB1.mono (by omega)) (Nat.le_refl _))
  obtain ⟨x0, x1⟩ := HX.out w1 hB1
  have HR0 := Lib.hid hr0
  clear hr0 hsz0 hb1
  have hL : (encL m0).length ≤ 4611686018427387904 := by have := encL_len m0; omega
  go_wp2_with fail
  refine (toMsg_any w.heap.size m0 _ w1 hl0 HM0.out (by omega)).mono ?_
  rintro e w2 ⟨u2, rfl, hu2, hb2⟩
  obtain ⟨A2, c2, rfl, -⟩ := Rep.slice_form hu2.rd
  have z2 : w1.heap.size ≤ w2.heap.size := hb2.size
  have hB2 := hB1.trans (hb2.mono (show w.heap.size + 1 ≤ _ by omega))
  replace HM0 := Lib.hid (Rep.below (R := FieldsR) HM0.out hb2 (by omega))
  have H2 := Lib.hid hu2
  clear x0 x1
  obtain ⟨x0, x1⟩ := HX.out w2 hB2
  go_wp2_with fail
  refine (specEncode_any _ _ m0 w2 ht0 hl0 HS0.out H2.out.rd (by omega)).mono ?_
  rintro e w3 ⟨u3, rfl, hu3, hb3⟩
  obtain ⟨A3, c3, rfl, -⟩ := hu3.form
  have z3 : w2.heap.size ≤ w3.heap.size := hb3.size
  have hB3 := hB2.trans (hb3.mono (show w.heap.size + 1 ≤ _ by omega))
  replace HM0 := Lib.hid (Rep.below (R := FieldsR) HM0.out hb3 (by omega))
  replace H2 := Lib.hid (H2.out.below hb3 (by omega))
  have EW := Lib.hid hu3
  clear x0 x1
  obtain ⟨x0, x1⟩ := HX.out w3 hB3
  clear H2
  generalize hel : encL m0 = el at hL EW ⊢
  generalize hek : msgOk m0 = ek
  have HEL := Lib.hid hel
  have HEK := Lib.hid hek
  clear hel hek
  go_wp2_with fail
  refine (toMsg_any w.heap.size m0 _ w3 hl0 HM0.out (by omega)).mono ?_
  rintro e w4 ⟨u4, rfl, hu4, hb4⟩
  obtain ⟨A4, c4, rfl, -⟩ := Rep.slice_form hu4.rd
  have z4 : w3.heap.size ≤ w4.heap.size := hb4.size
  have hB4 := hB3.trans (hb4.mono (show w.heap.size + 1 ≤ _ by omega))
  replace HM0 := Lib.hid (Rep.below (R := FieldsR) HM0.out hb4 (by omega))
  replace EW := Lib.hid (EW.out.below hb4 (by omega))
  have H4 := Lib.hid hu4
  clear x0 x1
  obtain ⟨x0, x1⟩ := HX.out w4 hB4
  have yy4_0 : w.heap.size < w4.heap.size := by omega
  go_wp2_with fail
  have hb5 := (Below.refl w4.heap.size w4).alloc (Nat.le_refl _) (.cells #[.string m0.1, .slice A4 m0.2.length c4] 31)
  have hX4 := heap_alloc_new w4 (.cells #[.string m0.1, .slice A4 m0.2.length c4] 31)
  generalize w4.alloc (.cells #[.string m0.1, .slice A4 m0.2.length c4] 31) = w5 at hb5 hX4 ⊢
  have z5 : w4.heap.size ≤ w5.heap.size := hb5.size
  have zl5 : w4.heap.size < w5.heap.size := lt_of_block hX4
  have hB5 := hB4.trans (hb5.mono (show w.heap.size + 1 ≤ _ by omega))
  replace HM0 := Lib.hid (Rep.below (R := FieldsR) HM0.out hb5 (by omega))
  replace EW := Lib.hid (EW.out.below hb5 (by omega))
  replace H4 := Lib.hid (H4.out.below hb5 (by omega))
  have X4 := Lib.hid hX4
  clear hX4
  clear x0 x1
  obtain ⟨x0, x1⟩ := HX.out w5 hB5
  have X4c0 := cell_of_row _ _ 0 _ _ (0, 0) X4.out
  have X4c1 := cell_of_row _ _ 1 _ _ (0, 0) X4.out
  simp only [List.getElem?_toArray, List.getElem?_cons_zero, List.getElem?_cons_succ] at X4c0 X4c1
  go_wp2_with fail
  refine (implEncode_any _ _ m0 w5 ht0 hl0 HS0.out H4.out.rd (by omega) (by omega) (HT.out _ (HB0.out.trans (hB5.mono (by omega))))).mono ?_
  rintro e w6 ⟨u6, rfl, hu6, hb6⟩
  rw [HEL.out] at hu6
  rw [HEK.out]
  obtain ⟨A6, c6, rfl, -⟩ := hu6.form
  have z6 : w5.heap.size ≤ w6.heap.size := hb6.size
  have hB6 := hB5.trans (hb6.mono (show w.heap.size + 1 ≤ _ by omega))
  replace HM0 := Lib.hid (Rep.below (R := FieldsR) HM0.out hb6 (by omega))
  replace EW := Lib.hid (EW.out.below hb6 (by omega))
  replace H4 := Lib.hid (H4.out.below hb6 (by omega))
  replace X4 := Lib.hid ((hb6.block _ (by omega)).trans X4.out)
  have EG := Lib.hid hu6
  clear x0 x1
  obtain ⟨x0, x1⟩ := HX.out w6 hB6
  clear X4c0 X4c1
  have X4c0 := cell_of_row _ _ 0 _ _ (0, 0) X4.out
  have X4c1 := cell_of_row _ _ 1 _ _ (0, 0) X4.out
  simp only [List.getElem?_toArray, List.getElem?_cons_zero, List.getElem?_cons_succ] at X4c0 X4c1
  go_wp2_with fail
  refine (eqBytes_any _ _ _ _ el w6 hL EG.out.rd EW.out.rd).mono ?_
  rintro e w7 ⟨rfl, hb7⟩
  have z7 : w6.heap.size ≤ w7.heap.size := hb7.size
  have hB7 := hB6.trans (hb7.mono (show w.heap.size + 1 ≤ _ by omega))
  replace HM0 := Lib.hid (Rep.below (R := FieldsR) HM0.out hb7 (by omega))
  replace EW := Lib.hid (EW.out.below hb7 (by omega))
  replace H4 := Lib.hid (H4.out.below hb7 (by omega))
  replace X4 := Lib.hid ((hb7.block _ (by omega)).trans X4.out)
  replace EG := Lib.hid (EG.out.below hb7 (by omega))
  clear x0 x1
  obtain ⟨x0, x1⟩ := HX.out w7 hB7
  clear X4c0 X4c1
  have X4c0 := cell_of_row _ _ 0 _ _ (0, 0) X4.out
  have X4c1 := cell_of_row _ _ 1 _ _ (0, 0) X4.out
  simp only [List.getElem?_toArray, List.getElem?_cons_zero, List.getElem?_cons_succ] at X4c0 X4c1
  go_wp2
  have hD : Below w7.heap.size w7 w7.drew := below_drew w7 _
  have zD : w7.drew.heap.size = w7.heap.size := rfl
  go_region_held3 (fun V => V.cell? ⟨w4.heap.size, 0, none⟩ = some (.string m0.1) ∧ V.cell? ⟨w4.heap.size, 1, none⟩ = some (.slice A4 m0.2.length c4) ∧ V.cell? ⟨w.heap.size, 0, none⟩ = some (.string m0.1) ∧ V.cell? ⟨w.heap.size, 1, none⟩ = some (.slice AM0 m0.2.length cM0)) (go_keep) (first | (go_at_call 11; refine (toMsg_any w.heap.size m0 _ w7.drew hl0 (Rep.below (R := FieldsR) HM0.out hD (by omega)) (show w.heap.size ≤ w7.heap.size by omega)).mono ?_; rintro e w8 ⟨uq, rfl, huq, hbq⟩; have hbq : Below w7.heap.size w7.drew w8 := hbq; have huq : FieldsR.mine w7.heap.size w8.heap.size w8 [uq] m0.2 := huq; have zq : w7.heap.size ≤ w8.heap.size := hbq.size; have qa0 := (hbq.cell (p := ⟨w4.heap.size, 0, none⟩) (show w4.heap.size < _ by omega)).trans X4c0; have qa1 := (hbq.cell (p := ⟨w4.heap.size, 1, none⟩) (show w4.heap.size < _ by omega)).trans X4c1; have qa2 := (hbq.cell (p := ⟨w.heap.size, 0, none⟩) (show w.heap.size < _ by omega)).trans x0; have qa3 := (hbq.cell (p := ⟨w.heap.size, 1, none⟩) (show w.heap.size < _ by omega)).trans x1) | (go_at_call 14; refine (eqMsg_any _ _ _ _ m0 w8 ht0 (by omega) (H4.out.below (hD.trans hbq) (by omega)).rd huq.rd (by omega) (Nat.le_refl _)).mono ?_; rintro e w9 ⟨rfl, hbr⟩; have zr : w8.heap.size ≤ w9.heap.size := hbr.size; have qb0 := (hbr.cell (p := ⟨w4.heap.size, 0, none⟩) (show w4.heap.size < _ by omega)).trans qa0; have qb1 := (hbr.cell (p := ⟨w4.heap.size, 1, none⟩) (show w4.heap.size < _ by omega)).trans qa1; have qb2 := (hbr.cell (p := ⟨w.heap.size, 0, none⟩) (show w.heap.size < _ by omega)).trans qa2; have qb3 := (hbr.cell (p := ⟨w.heap.size, 1, none⟩) (show w.heap.size < _ by omega)).trans qa3))
  have hb9 : Below w7.heap.size w7 w9 := (hD.trans (hbq.mono (show w7.heap.size ≤ _ by omega))).trans (hbr.mono (show w7.heap.size ≤ _ by omega))
  have hB9 := hB7.trans (hb9.mono (show w.heap.size + 1 ≤ _ by omega))
  have z9 : w7.heap.size ≤ w9.heap.size := hb9.size
  clear hbq hbr huq qa0 qa1 qa2 qa3 qb0 qb1 qb2 qb3 hD zD
  replace HM0 := Lib.hid (Rep.below (R := FieldsR) HM0.out hb9 (by omega))
  replace EW := Lib.hid (EW.out.below hb9 (by omega))
  replace H4 := Lib.hid (H4.out.below hb9 (by omega))
  replace X4 := Lib.hid ((hb9.block _ (by omega)).trans X4.out)
  replace EG := Lib.hid (EG.out.below hb9 (by omega))
  clear x0 x1
  obtain ⟨x0, x1⟩ := HX.out w9 hB9
  clear X4c0 X4c1
  have X4c0 := cell_of_row _ _ 0 _ _ (0, 0) X4.out
  have X4c1 := cell_of_row _ _ 1 _ _ (0, 0) X4.out
  simp only [List.getElem?_toArray, List.getElem?_cons_zero, List.getElem?_cons_succ] at X4c0 X4c1
  go_wp2_with fail
  refine (markMsg_any _ _ _ m0 1 w9 (by omega) (by decide) (by decide) H4.out (by omega)).mono ?_
  rintro e w10 ⟨rfl, hmk, ht10⟩
  have z10 : w9.heap.size ≤ w10.heap.size := ht10.size
  have hB10 := hB9.trans (ht10.below (show w.heap.size + 1 ≤ _ by omega) (by omega))
  replace HM0 := Lib.hid (Rep.turned (R := FieldsR) HM0.out ht10 (by omega) (by omega))
  replace EW := Lib.hid (EW.out.turned ht10 (by omega) (by omega))
  replace X4 := Lib.hid ((ht10.block _ (by omega) (by omega)).trans X4.out)
  replace EG := Lib.hid (EG.out.turned ht10 (by omega) (by omega))
  clear H4
  clear x0 x1
  obtain ⟨x0, x1⟩ := HX.out w10 hB10
  clear X4c0 X4c1
  have X4c0 := cell_of_row _ _ 0 _ _ (0, 0) X4.out
  have X4c1 := cell_of_row _ _ 1 _ _ (0, 0) X4.out
  simp only [List.getElem?_toArray, List.getElem?_cons_zero, List.getElem?_cons_succ] at X4c0 X4c1
  clear X4c0 X4c1
  clear X4
  have kk : ¬ ((1 : Int) + 2 * (m0.2.length : Int) < 0) := by omega
  go_wp2_with fail
  refine (eqBytes_any _ _ _ _ el w10 hL EG.out.rd EW.out.rd).mono ?_
  rintro e w11 ⟨rfl, hb11⟩
  have z11 : w10.heap.size ≤ w11.heap.size := hb11.size
  have hB11 := hB10.trans (hb11.mono (show w.heap.size + 1 ≤ _ by omega))
  replace HM0 := Lib.hid (Rep.below (R := FieldsR) HM0.out hb11 (by omega))
  replace EW := Lib.hid (EW.out.below hb11 (by omega))
  replace EG := Lib.hid (EG.out.below hb11 (by omega))
  clear x0 x1
  obtain ⟨x0, x1⟩ := HX.out w11 hB11
  clear kk
  go_wp2_with fail
  refine (markBytes_any _ _ _ el 1 w11 hL (by decide) (by decide) EG.out).mono ?_
  rintro e w12 ⟨rfl, hmk12, hg12⟩
  have ht12 := Turned.of_grown hg12 EG.out.blk
  clear hg12
  have z12 : w11.heap.size ≤ w12.heap.size := ht12.size
  have hB12 := hB11.trans (ht12.below (show w.heap.size + 1 ≤ _ by omega) (by omega))
  replace HM0 := Lib.hid (Rep.turned (R := FieldsR) HM0.out ht12 (by omega) (by omega))
  replace EW := Lib.hid (EW.out.turned ht12 (by omega) (by omega))
  clear EG
  have HM := Lib.hid hmk12
  clear x0 x1
  obtain ⟨x0, x1⟩ := HX.out w12 hB12
  have kk : ¬ ((1 : Int) + (el.length : Int) < 0) := by omega
  go_wp2_with fail
  refine (heldBytes_any _ _ el.length 1 w12 hL (by decide) (by decide) HM.out.rd).mono ?_
  rintro e w13 ⟨rfl, hb13⟩
  have z13 : w12.heap.size ≤ w13.heap.size := hb13.size
  have hB13 := hB12.trans (hb13.mono (show w.heap.size + 1 ≤ _ by omega))
  replace HM0 := Lib.hid (Rep.below (R := FieldsR) HM0.out hb13 (by omega))
  replace EW := Lib.hid (EW.out.below hb13 (by omega))
  replace HM := Lib.hid (HM.out.below hb13 (by omega))
  clear x0 x1
  obtain ⟨x0, x1⟩ := HX.out w13 hB13
  go_wp2_with fail
  refine (toMsg_any w.heap.size m0 _ w13 hl0 HM0.out (by omega)).mono ?_
  rintro e w14 ⟨u14, rfl, hu14, hb14⟩
  obtain ⟨A14, c14, rfl, -⟩ := Rep.slice_form hu14.rd
  have z14 : w13.heap.size ≤ w14.heap.size := hb14.size
  have hB14 := hB13.trans (hb14.mono (show w.heap.size + 1 ≤ _ by omega))
  replace HM0 := Lib.hid (Rep.below (R := FieldsR) HM0.out hb14 (by omega))
  replace EW := Lib.hid (EW.out.below hb14 (by omega))
  replace HM := Lib.hid (HM.out.below hb14 (by omega))
  have H5 := Lib.hid hu14
  clear x0 x1
  obtain ⟨x0, x1⟩ := HX.out w14 hB14
  go_wp2_with fail
  refine (implEncode_any _ _ m0 w14 ht0 hl0 HS0.out H5.out.rd (by omega) (by omega) (HT.out _ (HB0.out.trans (hB14.mono (by omega))))).mono ?_
  rintro e w15 ⟨u15, rfl, hu15, hb15⟩
  rw [HEL.out] at hu15
  rw [HEK.out]
  obtain ⟨A15, c15, rfl, -⟩ := hu15.form
  have z15 : w14.heap.size ≤ w15.heap.size := hb15.size
  have hB15 := hB14.trans (hb15.mono (show w.heap.size + 1 ≤ _ by omega))
  replace HM0 := Lib.hid (Rep.below (R := FieldsR) HM0.out hb15 (by omega))
  replace EW := Lib.hid (EW.out.below hb15 (by omega))
  replace HM := Lib.hid (HM.out.below hb15 (by omega))
  replace H5 := Lib.hid (H5.out.below hb15 (by omega))
  have EH := Lib.hid hu15
  clear x0 x1
  obtain ⟨x0, x1⟩ := HX.out w15 hB15
  go_wp2_with fail
  refine (eqBytes_any _ _ _ _ el w15 hL EH.out.rd EW.out.rd).mono ?_
  rintro e w16 ⟨rfl, hb16⟩
  have z16 : w15.heap.size ≤ w16.heap.size := hb16.size
  have hB16 := hB15.trans (hb16.mono (show w.heap.size + 1 ≤ _ by omega))
  replace HM0 := Lib.hid (Rep.below (R := FieldsR) HM0.out hb16 (by omega))
  replace EW := Lib.hid (EW.out.below hb16 (by omega))
  replace HM := Lib.hid (HM.out.below hb16 (by omega))
  replace H5 := Lib.hid (H5.out.below hb16 (by omega))
  replace EH := Lib.hid (EH.out.below hb16 (by omega))
  clear x0 x1
  obtain ⟨x0, x1⟩ := HX.out w16 hB16
  go_wp2_with fail
  refine (heldBytes_any _ _ el.length 1 w16 hL (by decide) (by decide) HM.out.rd).mono ?_
  rintro e w17 ⟨rfl, hb17⟩
  have z17 : w16.heap.size ≤ w17.heap.size := hb17.size
  have hB17 := hB16.trans (hb17.mono (show w.heap.size + 1 ≤ _ by omega))
  replace HM0 := Lib.hid (Rep.below (R := FieldsR) HM0.out hb17 (by omega))
  replace EW := Lib.hid (EW.out.below hb17 (by omega))
  replace HM := Lib.hid (HM.out.below hb17 (by omega))
  replace H5 := Lib.hid (H5.out.below hb17 (by omega))
  replace EH := Lib.hid (EH.out.below hb17 (by omega))
  clear x0 x1
  obtain ⟨x0, x1⟩ := HX.out w17 hB17
  go_wp2
  go_ret
  exact ⟨rfl, (HB0.out.trans (hB17.mono (by omega)))⟩

open Go.Proofs.YtkkbhlaakhkjnaaGreatDoor.doorz
set_option maxRecDepth 100000 in
theorem rowed : allRowed Tryz.prog Tryz.f3.params.toList = true := by kernel_rfl
set_option maxRecDepth 100000 in
theorem resT : Tryz.f3.resultTypes = #[4] := by kernel_rfl
set_option maxRecDepth 100000 in
theorem door_met (os : Os) (args : Array Value) : laidMetH Tryz.prog Rows.fnExactEncodeRow.laid ((World.doorLaid Tryz.prog 400 os).forCall (fun _ _ => 0) ⟨#[], args, []⟩).memory := met os args

set_option maxRecDepth 100000 in
theorem lifted (os : Os) (started : os.Started) (H : Type) (enc : TypeId × Value → H) :
    ReturnsInHanded {} Tryz.checked os 3 .any (fun w args => (Rows.fnExactEncodeSpec.pre enc Tryz.prog Tryz.f3 [] false w args ∧ laidMetH Tryz.prog Rows.fnExactEncodeRow.laid w) ∧ sizedMet enc Tryz.prog Tryz.f3 (OpenSpec.ofChange Rows.fnExactEncodeSpec) false w args)
      (Rows.fnExactEncodeSpec.post enc Tryz.prog Tryz.f3 false true false false) := by
  refine returnsInHanded_of_change_and (C := Tryz.checked) (X := fun w _ => laidMetH Tryz.prog Rows.fnExactEncodeRow.laid w) (fun _ _ _ hh h => h.of_heap hh) own started (by kernel_rfl) Tryz.func3
    (ChangeSpec.witness_shaped (enc := enc) (C := Tryz.checked) (os := os) (X := fun w _ => laidMetH Tryz.prog Rows.fnExactEncodeRow.laid w) false (World.doorLaid Tryz.prog 400 os) #[.agg #[.string ByteArray.empty, .slice none 0 0]] 8 rfl (shaped os _) (by kernel_rfl) (by kernel_rfl) (by kernel_rfl) (door_met os _)) ?_
  intro W base args ds gs before hval0 hW _ _ hL0 _
  have hval : ∀ (j : Nat) t v, Tryz.f3.params[j]? = some t → args[j]? = some v → Value.okWide Tryz.prog W .any base t v := hval0
  have hW' := hW
  obtain ⟨p, q, hA0, hV, rfl, hfz, hnd⟩ := hW
  have hA : DataW.TrodAll enc Tryz.prog W 0 (fun _ => true) true Tryz.f3.params.toList args.toList ds p := hA0
  rw [Tryz.params3] at hA hval
  have hL := hL0
  rw [MakeChecks.laidMetH_plain _ _ _ (by kernel_rfl)] at hL
  obtain ⟨b0, s0, hv0, _, _, _⟩ := laid_sentinel hL.tail.tail.tail g0 t0 Tryz.underlying151 rowE Tryz.underlying183 Tryz.underlying197 rfl rfl Tryz.underlying9 cellsE cellsS
  have hc0 : W.cell? ⟨1, 0, none⟩ = some (.iface 183 (.pointer (some b0))) := by simpa using World.var?_cell g0 hv0 0
  have hlt0 : 1 < W.heap.size := by
    rcases Nat.lt_or_ge 1 W.heap.size with h | h
    · exact h
    · simp [World.cell?, Array.getElem?_eq_none h] at hc0
  have hT : laidMet Tryz.prog (("internal/strconv.uint64pow10", Lib.tabData .u64 Lib.pow10Tab) :: [("loop.example/g00735/impl.errNotDigits", Rows.laid_loop_example_g00735_impl_errNotDigits)]) W := by rw [← datP]; exact hL.tail.tail
  have htab : Lib.TabIs Tryz.prog W "internal/strconv.uint64pow10" .u64 Lib.pow10Tab := Lib.tabIs_of_head (rest := _) gP tP Tryz.underlying179 Tryz.underlying136 cellsU cellsA hT
  obtain ⟨v0, vs0, d0, ds0, p0, q0, hargs, rfl, rfl, h0, r0⟩ := trodAll_cons hA
  obtain ⟨rfl, rfl, rfl⟩ := trodAll_nil r0
  obtain rfl : args = #[v0] := by cases args; simp_all
  obtain ⟨rfl, rfl⟩ := hV.unique (vars_read1 enc g0 t0 Tryz.underlying151 hv0 trivial _)
  obtain ⟨m0, u0, rfl, w0, z0, n0, y0⟩ := open_msg (hval 0 24 v0 rfl rfl) h0
  clear hA0 hval0
  refine (walk W _ hc0 htab _ _ w0 z0 n0 y0).mono fun e W' ⟨he, hg⟩ => ?_
  subst he
  exact ⟨_, rfl, post_true laidOut rowed hW' rfl resT Tryz.underlying4 hg (vars_read1 enc g0 t0 Tryz.underlying151 (var?_below hg g0 hlt0 hv0) trivial _)⟩

set_option maxRecDepth 100000 in
theorem over : Rows.fnExactEncodeRow.holds Tryz.pinned (OpenSpec.ofChange Rows.fnExactEncodeSpec) :=
  OpenClaim.holds_of_wide 3 Tryz.f3 rfl rfl rfl rfl rfl rfl rfl ⟨rfl, rfl, rfl, rfl, rfl⟩ rfl rfl rfl rfl rfl (by kernel_rfl) Tryz.func3 (by kernel_rfl)
    (of_decide_eq_true (by kernel_rfl)) (by unfold Func.isWrapper; first | (rw [if_pos (by decide +kernel)]; kernel_rfl) | (rw [if_neg (by decide +kernel)]; exact ⟨rfl, rfl⟩))
    (fun os started H enc _ => lifted os started H enc)

set_option maxRecDepth 100000 in
theorem said : Rows.FnExactEncodeSaid :=
  over

set_option maxRecDepth 100000 in
theorem plain (f : FuncId) (fn : Func) (hf : Tryz.pinned.checked.prog.funcNamed "loop.example/g00735/laws.FnExactEncode" = some f) (hfn : Tryz.pinned.checked.prog.funcs[f]? = some fn) :
    Rows.fnExactEncodeCard.stood.looks = Tryz.pinned.checked.prog.looks [] ∧ ∀ (j : Nat) t, fn.params[j]? = some t → Tryz.pinned.checked.prog.wantsStandIn t = false := by
  obtain rfl : f = 3 := Option.some.inj ((show Tryz.prog.funcNamed "loop.example/g00735/laws.FnExactEncode" = some 3 by kernel_rfl).symm.trans hf) |>.symm
  obtain rfl : fn = Tryz.f3 := (Option.some.inj (Tryz.func3.symm.trans hfn)).symm
  refine ⟨looks, fun j t ht => ?_⟩
  rw [Tryz.params3] at ht
  have hm : t ∈ [24] := by simpa using Array.mem_of_getElem? ht
  have hall : ([24].all fun u => !Tryz.prog.wantsStandIn u) = true := by kernel_rfl
  exact (show Tryz.prog.wantsStandIn t = false by simpa using List.all_eq_true.1 hall t hm)

set_option maxRecDepth 100000 in
theorem proved : Rows.FnExactEncodeCardSaid :=
  Claim7.holds_tied_plain_at .later [] _ _ _ _ said (fun _ h => by cases h) (by kernel_rfl) (fun _ h => by cases h) fnExactEncode_row_tie rfl ⟨rfl, rfl⟩ mainIs rfl plain (by kernel_rfl)
#print axioms proved
end Go.Proofs.YtkkbhlaakhkjnaaGreatDoor.fnExactEncode
