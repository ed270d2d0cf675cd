/- FnExactHoldPut: for every argument the law answers true: the program's function returns what the reference returns; the listed package variables hold what the program's text lays (tied). -/
import Derived.Test.YtnjpcbmonipaoaaPost
import Derived.Test.YtnjpcbmonipaoaaHoldIP
import Derived.Test.YtnjpcbmonipaoaaOpenHold
import Derived.Test.YtnjpcbmonipaoaaHoldU
import Derived.Deep.RegionHeld3
import Derived.Deep.DeepCutAuto
namespace Go.Proofs.Ytnjpcbmonipaoaa.fnExactHoldPut
open Go.ChangeShapes Go.WideShapes Go.ChangeAt Go.RowKit
open Go.WideMaps Go.WideElems
open Go.ChangeMaps (open_string shut_string)
set_option linter.unusedVariables false

set_option maxRecDepth 100000 in
theorem own : ownKnob Try.prog.godebug = none := by kernel_rfl

set_option maxRecDepth 100000 in
set_option maxHeartbeats 8000000 in
theorem walk (w : World)  (l0 : List HoldD) (u0 : Value) (x1 : HoldD) (w0 : HoldsR.rd w.heap.size w [u0] l0) (z0 : l0.length ≤ maxLen) (y0 : ∀ x ∈ l0, x.1.size ≤ maxLen) (w1 : x1.1.size ≤ maxLen) :
    Calls Try.prog 8 #[u0, .agg #[.string x1.1, .int .i64 x1.2.1, .int .i64 x1.2.2]] w fun e w' => e = .returned (.bool true) ∧ Below w.heap.size w w' := by
  obtain ⟨AL0, cL0, rfl, -⟩ := Rep.slice_form w0
  have HL0 := Lib.hid w0
  have HN0 := Lib.hid z0
  have HY0 := Lib.hid y0
  clear w0 z0 y0
  have HW1 := Lib.hid w1
  clear w1
  have HB0 : Hid (Below w.heap.size w (w.alloc (.cells #[.string x1.1, .int .i64 x1.2.1, .int .i64 x1.2.2] 24))) := Lib.hid ((Below.refl w.heap.size w).alloc (Nat.le_refl _) (.cells #[.string x1.1, .int .i64 x1.2.1, .int .i64 x1.2.2] 24))
  have HX : Hid (∀ wr, Below (w.heap.size + 1) (w.alloc (.cells #[.string x1.1, .int .i64 x1.2.1, .int .i64 x1.2.2] 24)) wr → wr.cell? ⟨w.heap.size, 0, none⟩ = some (.string x1.1) ∧ wr.cell? ⟨w.heap.size, 1, none⟩ = some (.int .i64 x1.2.1) ∧ wr.cell? ⟨w.heap.size, 2, none⟩ = some (.int .i64 x1.2.2)) := Lib.hid fun wr hw => ⟨(hw.cell (p := ⟨w.heap.size, 0, none⟩) (show w.heap.size < _ by omega)).trans (by simp), (hw.cell (p := ⟨w.heap.size, 1, none⟩) (show w.heap.size < _ by omega)).trans (by simp), (hw.cell (p := ⟨w.heap.size, 2, none⟩) (show w.heap.size < _ by omega)).trans (by simp)⟩
  go_enter Try.func8, Try.ntmps8
  go_wp2_with fail
  refine (szHolds_any w.heap.size _ l0 1048576 (w.alloc (.cells #[.string x1.1, .int .i64 x1.2.1, .int .i64 x1.2.2] 24)) HN0.out HY0.out (Rep.below (R := HoldsR) HL0.out HB0.out (Nat.le_refl _)) (by first | omega | (simp <;> omega)) (by omega) (by omega)).mono ?_
  rintro e w101 ⟨r0, rfl, hr0, hb1⟩
  have zz101 : w.heap.size + 1 ≤ w101.heap.size := by have := hb1.size; simp at this; omega
  have hB1 : Below (w.heap.size + 1) (w.alloc (.cells #[.string x1.1, .int .i64 x1.2.1, .int .i64 x1.2.2] 24)) w101 := hb1.mono (by simp <;> omega)
  have hw1 : Below w.heap.size w w101 := HB0.out.trans (hb1.mono (by simp <;> omega))
  replace HL0 := Lib.hid (Rep.below (R := HoldsR) HL0.out hw1 (Nat.le_refl _))
  obtain ⟨x_0, x_1, x_2⟩ := HX.out w101 hB1
  rcases hr0 with rfl | ⟨hr0, hp0⟩
  · go_wp2
    go_ret
    exact ⟨rfl, (HB0.out.trans (hB1.mono (by first | omega | (simp <;> omega))))⟩
  have hl0 : l0.length ≤ 1048576 := by unfold holdsSz at hr0; omega
  have hq0 : r0 ≤ 1048576 := by omega
  have HR0 := Lib.hid hr0
  clear hr0
  go_wp2_with fail
  refine (szHold_any x1 r0 w101 HW1.out (by omega) (by omega)).mono ?_
  rintro e w102 ⟨r1, rfl, hr1, hb2⟩
  have zz102 : w101.heap.size ≤ w102.heap.size := hb2.size
  have hB2 := hB1.trans (hb2.mono (show w.heap.size + 1 ≤ _ by omega))
  replace HL0 := Lib.hid (Rep.below (R := HoldsR) HL0.out hb2 (by omega))
  clear x_0 x_1 x_2
  obtain ⟨x_0, x_1, x_2⟩ := HX.out w102 hB2
  rcases hr1 with rfl | ⟨hr1, hp1⟩
  · go_wp2
    go_ret
    exact ⟨rfl, (HB0.out.trans (hB2.mono (by first | omega | (simp <;> omega))))⟩
  have hq1 : r1 ≤ 1048576 := by omega
  have HR1 := Lib.hid hr1
  clear hr1
  have hwl : (putH l0 x1).1.length ≤ 1048576 := Nat.le_trans (putH_len l0 x1) (by omega)
  obtain ⟨wm, hwm⟩ : ∃ wm, wm = (putH l0 x1).1 := ⟨_, rfl⟩
  obtain ⟨wk, hwk⟩ : ∃ wk, wk = (putH l0 x1).2 := ⟨_, rfl⟩
  rw [← hwm] at hwl
  have HWM := Lib.hid hwm
  have HWK := Lib.hid hwk
  clear hwm hwk
  go_upto_region 8 with fail
  have zW3 : w.heap.size < w102.heap.size := by omega
  have HTO3 := Lib.hid (fun W (hW : Below w102.heap.size w102 W) => toHolds_any w.heap.size _ l0 W hl0 (Rep.below (R := HoldsR) HL0.out hW (by omega)) (Nat.le_trans (by omega) hW.size))
  have HPU3 := Lib.hid (fun W hi A c (hr : HoldsR.rd hi W [.slice A l0.length c] l0) (hi' : hi ≤ W.heap.size) => specHoldPut_any hi _ l0 x1 W hl0 HY0.out HW1.out hr hi')
  rw [← HWM.out, ← HWK.out] at HPU3
  have HTH3 := Lib.hid (fun W => toHold_any x1 W)
  go_cut [6, 7] (fun uv ov wx => ∃ (A_3 : Option Addr) (c_3 : Nat), uv = .slice A_3 wm.length c_3 ∧ ov = .bool wk ∧ HoldsR.mine w102.heap.size wx.heap.size wx [uv] wm ∧ Below w102.heap.size w102 wx)
  case first =>
    have hD : Below w102.heap.size w102 w102.drew := (Below.refl _ _).drew
    have zD : w102.drew.heap.size = w102.heap.size := rfl
    go_region_held3 (fun V => V.cell? ⟨w.heap.size, 0, none⟩ = some (.string x1.1) ∧ V.cell? ⟨w.heap.size, 1, none⟩ = some (.int .i64 x1.2.1) ∧ V.cell? ⟨w.heap.size, 2, none⟩ = some (.int .i64 x1.2.2)) (go_keep) (first | (go_at_call 19; refine (HTO3.out _ (by first | exact hD | exact hD.trans hbB)).mono ?_; rintro e wA ⟨uA, rfl, huA, hbA⟩; obtain ⟨AA, cA, rfl, -⟩ := Rep.slice_form huA.rd; have zA := hbA.size; have qA0 : wA.cell? ⟨w.heap.size, 0, none⟩ = some (.string x1.1) := (by first | exact (hbA.cell (p := ⟨w.heap.size, 0, none⟩) (show w.heap.size < _ by omega)).trans qB0 | exact (hbA.cell (p := ⟨w.heap.size, 0, none⟩) (show w.heap.size < _ by omega)).trans x_0); have qA1 : wA.cell? ⟨w.heap.size, 1, none⟩ = some (.int .i64 x1.2.1) := (by first | exact (hbA.cell (p := ⟨w.heap.size, 1, none⟩) (show w.heap.size < _ by omega)).trans qB1 | exact (hbA.cell (p := ⟨w.heap.size, 1, none⟩) (show w.heap.size < _ by omega)).trans x_1); have qA2 : wA.cell? ⟨w.heap.size, 2, none⟩ = some (.int .i64 x1.2.2) := (by first | exact (hbA.cell (p := ⟨w.heap.size, 2, none⟩) (show w.heap.size < _ by omega)).trans qB2 | exact (hbA.cell (p := ⟨w.heap.size, 2, none⟩) (show w.heap.size < _ by omega)).trans x_2)) | (go_at_call 15; refine (HTH3.out _).mono ?_; rintro e wB ⟨rfl, hbB⟩; have zB := hbB.size; have qB0 : wB.cell? ⟨w.heap.size, 0, none⟩ = some (.string x1.1) := (by first | exact (hbB.cell (p := ⟨w.heap.size, 0, none⟩) (show w.heap.size < _ by omega)).trans qA0 | exact (hbB.cell (p := ⟨w.heap.size, 0, none⟩) (show w.heap.size < _ by omega)).trans x_0); have qB1 : wB.cell? ⟨w.heap.size, 1, none⟩ = some (.int .i64 x1.2.1) := (by first | exact (hbB.cell (p := ⟨w.heap.size, 1, none⟩) (show w.heap.size < _ by omega)).trans qA1 | exact (hbB.cell (p := ⟨w.heap.size, 1, none⟩) (show w.heap.size < _ by omega)).trans x_1); have qB2 : wB.cell? ⟨w.heap.size, 2, none⟩ = some (.int .i64 x1.2.2) := (by first | exact (hbB.cell (p := ⟨w.heap.size, 2, none⟩) (show w.heap.size < _ by omega)).trans qA2 | exact (hbB.cell (p := ⟨w.heap.size, 2, none⟩) (show w.heap.size < _ by omega)).trans x_2)) | (go_at_call 26; refine (HPU3.out _ wA.heap.size _ _ (by first | exact huA.rd | exact (huA.below hbB (Nat.le_refl _)).rd) (by first | exact Nat.le_refl _ | exact hbB.size)).mono ?_; rintro e wC ⟨uC, rfl, huC, hbC⟩; obtain ⟨AC, cC, rfl, -⟩ := Rep.slice_form huC.rd; have zC := hbC.size; have qC0 : wC.cell? ⟨w.heap.size, 0, none⟩ = some (.string x1.1) := (by first | exact (hbC.cell (p := ⟨w.heap.size, 0, none⟩) (show w.heap.size < _ by omega)).trans qB0 | exact (hbC.cell (p := ⟨w.heap.size, 0, none⟩) (show w.heap.size < _ by omega)).trans qA0); have qC1 : wC.cell? ⟨w.heap.size, 1, none⟩ = some (.int .i64 x1.2.1) := (by first | exact (hbC.cell (p := ⟨w.heap.size, 1, none⟩) (show w.heap.size < _ by omega)).trans qB1 | exact (hbC.cell (p := ⟨w.heap.size, 1, none⟩) (show w.heap.size < _ by omega)).trans qA1); have qC2 : wC.cell? ⟨w.heap.size, 2, none⟩ = some (.int .i64 x1.2.2) := (by first | exact (hbC.cell (p := ⟨w.heap.size, 2, none⟩) (show w.heap.size < _ by omega)).trans qB2 | exact (hbC.cell (p := ⟨w.heap.size, 2, none⟩) (show w.heap.size < _ by omega)).trans qA2)))
    all_goals (go_wp2; go_meet)
    · exact ⟨AC, cC, rfl, rfl, huC.mono (by omega) (Nat.le_refl _), ((hD.trans hbA).trans (hbB.mono (show w102.heap.size ≤ _ by omega))).trans (hbC.mono (show w102.heap.size ≤ _ by omega))⟩
  case rest =>
    obtain ⟨A_3, c_3, rfl, rfl, hu3, hb3⟩ := hcut
    have zz103 : w102.heap.size ≤ wc.heap.size := hb3.size
    have hB3 := hB2.trans (hb3.mono (show w.heap.size + 1 ≤ _ by omega))
    replace HL0 := Lib.hid (Rep.below (R := HoldsR) HL0.out hb3 (by omega))
    have HW := Lib.hid hu3
    have HNX3 : ∃ V, V = wc := ⟨_, rfl⟩
    obtain ⟨w103, hVV⟩ := HNX3
    subst hVV
    clear x_0 x_1 x_2
    obtain ⟨x_0, x_1, x_2⟩ := HX.out w103 hB3
    go_wp2_with fail
    refine (toHolds_any w.heap.size _ l0 w103 hl0 HL0.out (by omega)).mono ?_
    rintro e w104 ⟨u_4, rfl, hu4, hb4⟩
    obtain ⟨A_4, c_4, rfl, -⟩ := Rep.slice_form hu4.rd
    have zz104 : w103.heap.size ≤ w104.heap.size := hb4.size
    have hB4 := hB3.trans (hb4.mono (show w.heap.size + 1 ≤ _ by omega))
    replace HL0 := Lib.hid (Rep.below (R := HoldsR) HL0.out hb4 (by omega))
    replace HW := Lib.hid (HW.out.below hb4 (by omega))
    clear x_0 x_1 x_2
    obtain ⟨x_0, x_1, x_2⟩ := HX.out w104 hB4
    have H4 := Lib.hid hu4
    go_wp2_with fail
    refine (toHold_any x1 w104).mono ?_
    rintro e w105 ⟨rfl, hb5⟩
    have zz105 : w104.heap.size ≤ w105.heap.size := hb5.size
    have hB5 := hB4.trans (hb5.mono (show w.heap.size + 1 ≤ _ by omega))
    replace HL0 := Lib.hid (Rep.below (R := HoldsR) HL0.out hb5 (by omega))
    replace HW := Lib.hid (HW.out.below hb5 (by omega))
    replace H4 := Lib.hid (H4.out.below hb5 (by omega))
    clear x_0 x_1 x_2
    obtain ⟨x_0, x_1, x_2⟩ := HX.out w105 hB5
    go_wp2_with fail
    refine (implHoldPut_any _ _ l0 x1 w105 hl0 HY0.out HW1.out H4.out.rd (by omega)).mono ?_
    rintro e w106 ⟨u_6, rfl, hu6, hb6⟩
    rw [← HWM.out] at hu6
    rw [← HWK.out]
    obtain ⟨A_6, c_6, rfl, -⟩ := Rep.slice_form hu6.rd
    have zz106 : w105.heap.size ≤ w106.heap.size := hb6.size
    have hB6 := hB5.trans (hb6.mono (show w.heap.size + 1 ≤ _ by omega))
    replace HL0 := Lib.hid (Rep.below (R := HoldsR) HL0.out hb6 (by omega))
    replace HW := Lib.hid (HW.out.below hb6 (by omega))
    replace H4 := Lib.hid (H4.out.below hb6 (by omega))
    clear x_0 x_1 x_2
    obtain ⟨x_0, x_1, x_2⟩ := HX.out w106 hB6
    have HG := Lib.hid hu6
    go_wp2_with fail
    refine (eqHolds_any _ _ _ _ wm w106 (by omega) HG.out.rd HW.out.rd (by omega) (by omega)).mono ?_
    rintro e w107 ⟨rfl, hb7⟩
    have zz107 : w106.heap.size ≤ w107.heap.size := hb7.size
    have hB7 := hB6.trans (hb7.mono (show w.heap.size + 1 ≤ _ by omega))
    replace HL0 := Lib.hid (Rep.below (R := HoldsR) HL0.out hb7 (by omega))
    replace HW := Lib.hid (HW.out.below hb7 (by omega))
    replace H4 := Lib.hid (H4.out.below hb7 (by omega))
    replace HG := Lib.hid (HG.out.below hb7 (by omega))
    clear x_0 x_1 x_2
    obtain ⟨x_0, x_1, x_2⟩ := HX.out w107 hB7
    go_wp2_with fail
    refine (toHolds_any w.heap.size _ l0 w107 hl0 HL0.out (by omega)).mono ?_
    rintro e w108 ⟨u_8, rfl, hu8, hb8⟩
    obtain ⟨A_8, c_8, rfl, -⟩ := Rep.slice_form hu8.rd
    have zz108 : w107.heap.size ≤ w108.heap.size := hb8.size
    have hB8 := hB7.trans (hb8.mono (show w.heap.size + 1 ≤ _ by omega))
    replace HL0 := Lib.hid (Rep.below (R := HoldsR) HL0.out hb8 (by omega))
    replace HW := Lib.hid (HW.out.below hb8 (by omega))
    replace H4 := Lib.hid (H4.out.below hb8 (by omega))
    replace HG := Lib.hid (HG.out.below hb8 (by omega))
    clear x_0 x_1 x_2
    obtain ⟨x_0, x_1, x_2⟩ := HX.out w108 hB8
    have HE := Lib.hid hu8
    go_wp2_with fail
    refine (eqHolds_any _ _ _ _ l0 w108 (by omega) H4.out.rd HE.out.rd (by omega) (by omega)).mono ?_
    rintro e w109 ⟨rfl, hb9⟩
    have zz109 : w108.heap.size ≤ w109.heap.size := hb9.size
    have hB9 := hB8.trans (hb9.mono (show w.heap.size + 1 ≤ _ by omega))
    replace HL0 := Lib.hid (Rep.below (R := HoldsR) HL0.out hb9 (by omega))
    replace HW := Lib.hid (HW.out.below hb9 (by omega))
    replace H4 := Lib.hid (H4.out.below hb9 (by omega))
    replace HG := Lib.hid (HG.out.below hb9 (by omega))
    replace HE := Lib.hid (HE.out.below hb9 (by omega))
    clear x_0 x_1 x_2
    obtain ⟨x_0, x_1, x_2⟩ := HX.out w109 hB9
    clear HE
    go_wp2_with fail
    refine (markHolds_any _ _ _ l0 1 w109 (by omega) (by decide) (by decide) H4.out (by omega)).mono ?_
    rintro e w110 ⟨rfl, hmk10, ht10⟩
    have zz110 : w109.heap.size ≤ w110.heap.size := ht10.size
    have hB10 := hB9.trans (ht10.below (show w.heap.size + 1 ≤ _ by omega) (by omega))
    replace HL0 := Lib.hid (Rep.turned (R := HoldsR) HL0.out ht10 (by omega) (by omega))
    replace HW := Lib.hid (HW.out.turned ht10 (by omega) (by omega))
    replace HG := Lib.hid (HG.out.turned ht10 (by omega) (by omega))
    clear H4
    clear x_0 x_1 x_2
    obtain ⟨x_0, x_1, x_2⟩ := HX.out w110 hB10
    have kk : ¬ ((1 : Int) + 3 * (l0.length : Int) < 0) := by omega
    go_wp2_with fail
    refine (eqHolds_any _ _ _ _ wm w110 (by omega) HG.out.rd HW.out.rd (by omega) (by omega)).mono ?_
    rintro e w111 ⟨rfl, hb11⟩
    have zz111 : w110.heap.size ≤ w111.heap.size := hb11.size
    have hB11 := hB10.trans (hb11.mono (show w.heap.size + 1 ≤ _ by omega))
    replace HL0 := Lib.hid (Rep.below (R := HoldsR) HL0.out hb11 (by omega))
    replace HW := Lib.hid (HW.out.below hb11 (by omega))
    replace HG := Lib.hid (HG.out.below hb11 (by omega))
    clear x_0 x_1 x_2
    obtain ⟨x_0, x_1, x_2⟩ := HX.out w111 hB11
    clear kk
    go_wp2_with fail
    refine (markHolds_any _ _ _ wm 1 w111 (by omega) (by decide) (by decide) HG.out (by omega)).mono ?_
    rintro e w112 ⟨rfl, hmk12, ht12⟩
    have zz112 : w111.heap.size ≤ w112.heap.size := ht12.size
    have hB12 := hB11.trans (ht12.below (show w.heap.size + 1 ≤ _ by omega) (by omega))
    replace HL0 := Lib.hid (Rep.turned (R := HoldsR) HL0.out ht12 (by omega) (by omega))
    replace HW := Lib.hid (HW.out.turned ht12 (by omega) (by omega))
    clear HG
    clear x_0 x_1 x_2
    obtain ⟨x_0, x_1, x_2⟩ := HX.out w112 hB12
    have HM := Lib.hid hmk12
    have kk : ¬ ((1 : Int) + 3 * (wm.length : Int) < 0) := by omega
    go_wp2_with fail
    refine (heldHolds_any _ _ wm.length 1 w112 (by omega) (by decide) (by decide) HM.out.rd (by omega)).mono ?_
    rintro e w113 ⟨rfl, hb13⟩
    have zz113 : w112.heap.size ≤ w113.heap.size := hb13.size
    have hB13 := hB12.trans (hb13.mono (show w.heap.size + 1 ≤ _ by omega))
    replace HL0 := Lib.hid (Rep.below (R := HoldsR) HL0.out hb13 (by omega))
    replace HW := Lib.hid (HW.out.below hb13 (by omega))
    replace HM := Lib.hid (HM.out.below hb13 (by omega))
    clear x_0 x_1 x_2
    obtain ⟨x_0, x_1, x_2⟩ := HX.out w113 hB13
    go_upto_region 27 with fail
    have zW14 : w.heap.size < w113.heap.size := by omega
    have HTO14 := Lib.hid (fun W (hW : Below w113.heap.size w113 W) => toHolds_any w.heap.size _ l0 W hl0 (Rep.below (R := HoldsR) HL0.out hW (by omega)) (Nat.le_trans (by omega) hW.size))
    have HPU14 := Lib.hid (fun W hi A c (hr : HoldsR.rd hi W [.slice A l0.length c] l0) (hi' : hi ≤ W.heap.size) => implHoldPut_any hi _ l0 x1 W hl0 HY0.out HW1.out hr hi')
    rw [← HWM.out, ← HWK.out] at HPU14
    have HTH14 := Lib.hid (fun W => toHold_any x1 W)
    go_cut [14, 15] (fun uv ov wx => ∃ (A_14 : Option Addr) (c_14 : Nat), uv = .slice A_14 wm.length c_14 ∧ ov = .bool wk ∧ HoldsR.mine w113.heap.size wx.heap.size wx [uv] wm ∧ Below w113.heap.size w113 wx)
    case first =>
      have hD : Below w113.heap.size w113 w113.drew := (Below.refl _ _).drew
      have zD : w113.drew.heap.size = w113.heap.size := rfl
      go_region_held3 (fun V => V.cell? ⟨w.heap.size, 0, none⟩ = some (.string x1.1) ∧ V.cell? ⟨w.heap.size, 1, none⟩ = some (.int .i64 x1.2.1) ∧ V.cell? ⟨w.heap.size, 2, none⟩ = some (.int .i64 x1.2.2)) (go_keep) (first | (go_at_call 19; refine (HTO14.out _ (by first | exact hD | exact hD.trans hbB)).mono ?_; rintro e wA ⟨uA, rfl, huA, hbA⟩; obtain ⟨AA, cA, rfl, -⟩ := Rep.slice_form huA.rd; have zA := hbA.size; have qA0 : wA.cell? ⟨w.heap.size, 0, none⟩ = some (.string x1.1) := (by first | exact (hbA.cell (p := ⟨w.heap.size, 0, none⟩) (show w.heap.size < _ by omega)).trans qB0 | exact (hbA.cell (p := ⟨w.heap.size, 0, none⟩) (show w.heap.size < _ by omega)).trans x_0); have qA1 : wA.cell? ⟨w.heap.size, 1, none⟩ = some (.int .i64 x1.2.1) := (by first | exact (hbA.cell (p := ⟨w.heap.size, 1, none⟩) (show w.heap.size < _ by omega)).trans qB1 | exact (hbA.cell (p := ⟨w.heap.size, 1, none⟩) (show w.heap.size < _ by omega)).trans x_1); have qA2 : wA.cell? ⟨w.heap.size, 2, none⟩ = some (.int .i64 x1.2.2) := (by first | exact (hbA.cell (p := ⟨w.heap.size, 2, none⟩) (show w.heap.size < _ by omega)).trans qB2 | exact (hbA.cell (p := ⟨w.heap.size, 2, none⟩) (show w.heap.size < _ by omega)).trans x_2)) | (go_at_call 15; refine (HTH14.out _).mono ?_; rintro e wB ⟨rfl, hbB⟩; have zB := hbB.size; have qB0 : wB.cell? ⟨w.heap.size, 0, none⟩ = some (.string x1.1) := (by first | exact (hbB.cell (p := ⟨w.heap.size, 0, none⟩) (show w.heap.size < _ by omega)).trans qA0 | exact (hbB.cell (p := ⟨w.heap.size, 0, none⟩) (show w.heap.size < _ by omega)).trans x_0); have qB1 : wB.cell? ⟨w.heap.size, 1, none⟩ = some (.int .i64 x1.2.1) := (by first | exact (hbB.cell (p := ⟨w.heap.size, 1, none⟩) (show w.heap.size < _ by omega)).trans qA1 | exact (hbB.cell (p := ⟨w.heap.size, 1, none⟩) (show w.heap.size < _ by omega)).trans x_1); have qB2 : wB.cell? ⟨w.heap.size, 2, none⟩ = some (.int .i64 x1.2.2) := (by first | exact (hbB.cell (p := ⟨w.heap.size, 2, none⟩) (show w.heap.size < _ by omega)).trans qA2 | exact (hbB.cell (p := ⟨w.heap.size, 2, none⟩) (show w.heap.size < _ by omega)).trans x_2)) | (go_at_call 27; refine (HPU14.out _ wA.heap.size _ _ (by first | exact huA.rd | exact (huA.below hbB (Nat.le_refl _)).rd) (by first | exact Nat.le_refl _ | exact hbB.size)).mono ?_; rintro e wC ⟨uC, rfl, huC, hbC⟩; obtain ⟨AC, cC, rfl, -⟩ := Rep.slice_form huC.rd; have zC := hbC.size; have qC0 : wC.cell? ⟨w.heap.size, 0, none⟩ = some (.string x1.1) := (by first | exact (hbC.cell (p := ⟨w.heap.size, 0, none⟩) (show w.heap.size < _ by omega)).trans qB0 | exact (hbC.cell (p := ⟨w.heap.size, 0, none⟩) (show w.heap.size < _ by omega)).trans qA0); have qC1 : wC.cell? ⟨w.heap.size, 1, none⟩ = some (.int .i64 x1.2.1) := (by first | exact (hbC.cell (p := ⟨w.heap.size, 1, none⟩) (show w.heap.size < _ by omega)).trans qB1 | exact (hbC.cell (p := ⟨w.heap.size, 1, none⟩) (show w.heap.size < _ by omega)).trans qA1); have qC2 : wC.cell? ⟨w.heap.size, 2, none⟩ = some (.int .i64 x1.2.2) := (by first | exact (hbC.cell (p := ⟨w.heap.size, 2, none⟩) (show w.heap.size < _ by omega)).trans qB2 | exact (hbC.cell (p := ⟨w.heap.size, 2, none⟩) (show w.heap.size < _ by omega)).trans qA2)))
      all_goals (go_wp2; go_meet)
      · exact ⟨AC, cC, rfl, rfl, huC.mono (by omega) (Nat.le_refl _), ((hD.trans hbA).trans (hbB.mono (show w113.heap.size ≤ _ by omega))).trans (hbC.mono (show w113.heap.size ≤ _ by omega))⟩
    case rest =>
      obtain ⟨A_14, c_14, rfl, rfl, hu14, hb14⟩ := hcut
      have zz114 : w113.heap.size ≤ wc.heap.size := hb14.size
      have hB14 := hB13.trans (hb14.mono (show w.heap.size + 1 ≤ _ by omega))
      replace HL0 := Lib.hid (Rep.below (R := HoldsR) HL0.out hb14 (by omega))
      replace HW := Lib.hid (HW.out.below hb14 (by omega))
      replace HM := Lib.hid (HM.out.below hb14 (by omega))
      have HH := Lib.hid hu14
      have HNX14 : ∃ V, V = wc := ⟨_, rfl⟩
      obtain ⟨w114, hVV⟩ := HNX14
      subst hVV
      clear x_0 x_1 x_2
      obtain ⟨x_0, x_1, x_2⟩ := HX.out w114 hB14
      go_wp2_with fail
      refine (eqHolds_any _ _ _ _ wm w114 (by omega) HH.out.rd HW.out.rd (by omega) (by omega)).mono ?_
      rintro e w115 ⟨rfl, hb15⟩
      have zz115 : w114.heap.size ≤ w115.heap.size := hb15.size
      have hB15 := hB14.trans (hb15.mono (show w.heap.size + 1 ≤ _ by omega))
      replace HL0 := Lib.hid (Rep.below (R := HoldsR) HL0.out hb15 (by omega))
      replace HW := Lib.hid (HW.out.below hb15 (by omega))
      replace HM := Lib.hid (HM.out.below hb15 (by omega))
      replace HH := Lib.hid (HH.out.below hb15 (by omega))
      clear x_0 x_1 x_2
      obtain ⟨x_0, x_1, x_2⟩ := HX.out w115 hB15
      go_wp2_with fail
      refine (heldHolds_any _ _ wm.length 1 w115 (by omega) (by decide) (by decide) HM.out.rd (by omega)).mono ?_
      rintro e w116 ⟨rfl, hb16⟩
      have zz116 : w115.heap.size ≤ w116.heap.size := hb16.size
      have hB16 := hB15.trans (hb16.mono (show w.heap.size + 1 ≤ _ by omega))
      replace HL0 := Lib.hid (Rep.below (R := HoldsR) HL0.out hb16 (by omega))
      replace HW := Lib.hid (HW.out.below hb16 (by omega))
      replace HM := Lib.hid (HM.out.below hb16 (by omega))
      replace HH := Lib.hid (HH.out.below hb16 (by omega))
      clear x_0 x_1 x_2
      obtain ⟨x_0, x_1, x_2⟩ := HX.out w116 hB16
      go_wp2
      go_ret
      exact ⟨rfl, (HB0.out.trans (hB16.mono (by first | omega | (simp <;> omega))))⟩


set_option maxRecDepth 100000 in
theorem laidOut : laidOutB Try.prog = true := by kernel_rfl
set_option maxRecDepth 100000 in
theorem rowed : allRowed Try.prog Try.f8.params.toList = true := by kernel_rfl
set_option maxRecDepth 100000 in
theorem resT : Try.f8.resultTypes = #[4] := by kernel_rfl
set_option maxRecDepth 100000 in
theorem lifted (os : Os) (started : os.Started) (H : Type) (enc : TypeId × Value → H) :
    ReturnsInHanded {} Try.checked os 8 .any (Rows.fnExactHoldPutSpec.pre6 enc Try.prog Try.f8 Rows.fnExactHoldPutRow.domain false) (Rows.fnExactHoldPutSpec.post enc Try.prog Try.f8 false true false false) := by
  refine returnsInHanded_of_change (C := Try.checked) own started (by kernel_rfl) Try.func8
    (ChangeSpec.witness6 (enc := enc) (C := Try.checked) false ⟨#[], #[.slice none 0 0, .agg #[.string ByteArray.empty, .int .i64 0, .int .i64 0]], []⟩ 8 (by kernel_rfl) (by kernel_rfl) (by kernel_rfl) (by kernel_rfl)) ?_
  intro W base args ds gs before hval0 hW hcnd _
  have hval : ∀ (j : Nat) t v, Try.f8.params[j]? = some t → args[j]? = some v → Value.okWide Try.prog W .any base t v := hval0
  have hW' := hW
  obtain ⟨p, q, hA0, hV, rfl, hfz, hnd⟩ := hW
  have hA : DataW.TrodAll enc Try.prog W 0 (fun _ => true) true Try.f8.params.toList args.toList ds p := hA0
  rw [Try.params8] at hA hval
  obtain ⟨v0, vs0, d0, ds0, p0, q0, hargs, rfl, rfl, h0, r0⟩ := trodAll_cons hA
  obtain ⟨v1, vs1, d1, ds1, p1, q1, rfl, rfl, rfl, h1, r1⟩ := trodAll_cons r0
  obtain ⟨rfl, rfl, rfl⟩ := trodAll_nil r1
  obtain rfl : args = #[v0, v1] := by cases args; simp_all
  obtain ⟨rfl, rfl⟩ := trodVars_none hV
  obtain ⟨l0, w0, z0, y0⟩ := open_holds (hval 0 30 v0 rfl rfl) h0
  obtain ⟨x1, rfl, w1⟩ := open_hold (hval 1 24 v1 rfl rfl) h1
  clear hA0 hval0
  refine (walk W  _ _ _ w0 z0 y0 w1).mono fun e W' ⟨he, hg⟩ => ?_
  subst he
  exact ⟨_, rfl, post_true laidOut rowed hW' rfl resT Try.underlying4 hg (pv := []) rfl⟩

set_option maxRecDepth 100000 in
theorem over : Rows.fnExactHoldPutRow.holds Try.pinned (OpenSpec.ofChange Rows.fnExactHoldPutSpec) :=
  OpenClaim.holds_of_wide 8 Try.f8 rfl rfl rfl rfl rfl rfl rfl ⟨rfl, rfl, rfl, rfl, rfl⟩ rfl rfl rfl rfl rfl (by kernel_rfl) Try.func8 (by kernel_rfl)
    (of_decide_eq_true (by kernel_rfl)) (by unfold Func.isWrapper; first | (rw [if_pos (by decide +kernel)]; kernel_rfl) | (rw [if_neg (by decide +kernel)]; exact ⟨rfl, rfl⟩))
    (fun os started H enc _ => lifted os started H enc)

set_option maxRecDepth 100000 in
theorem proved : Rows.FnExactHoldPutSaid :=
  over
#print axioms proved
end Go.Proofs.Ytnjpcbmonipaoaa.fnExactHoldPut
