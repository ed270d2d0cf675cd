/- FnExactSlotPut: for every argument the law answers true: the program's function returns what the reference returns; the listed package variables hold what the program's text lays (tied). -/
import Derived.Test.YtkbakcnhhlmpkaaPost
import Derived.Test.YtkbakcnhhlmpkaaOpenSlot
import Derived.Test.YtkbakcnhhlmpkaaSlotP
import Derived.Test.YtkbakcnhhlmpkaaSlotH
import Derived.Deep.RegionHeld3
import Derived.Deep.DeepCutAuto
import Derived.Test.YtkbakcnhhlmpkaaSlotIP
namespace Go.Proofs.Ytkbakcnhhlmpkaa.fnExactSlotPut
open Go.ChangeShapes Go.WideShapes Go.ChangeAt Go.RowKit
open Go.WideMaps Go.WideElems
open Go.ChangeMaps (open_string shut_string)
set_option linter.unusedVariables false

set_option maxRecDepth 100000 in
theorem own : ownKnob Try.prog.godebug = none := by kernel_rfl

set_option maxRecDepth 100000 in
set_option maxHeartbeats 8000000 in
theorem walk (w : World)  (l0 : List SlotD) (u0 : Value) (x1 : SlotD) (u1 : Value) (w0 : SlotsR.rd w.heap.size w [u0] l0) (z0 : l0.length ≤ maxLen) (y0 : ∀ x ∈ l0, x.1.size ≤ maxLen ∧ x.2.1.size ≤ maxLen ∧ x.2.2.length ≤ maxLen ∧ isBytes x.2.2) (w1 : rd .u8 w.heap.size w u1 x1.2.2) (z1 : x1.1.size ≤ maxLen) (n1 : x1.2.1.size ≤ maxLen) (y1 : x1.2.2.length ≤ maxLen ∧ isBytes x1.2.2) :
    Calls Try.prog 6 #[u0, .agg #[.string x1.1, .string x1.2.1, u1]] w fun e w' => e = .returned (.bool true) ∧ Below w.heap.size w w' := by
  obtain ⟨AL0, cL0, rfl, -⟩ := Rep.slice_form w0
  have HL0 := Lib.hid w0
  have HN0 := Lib.hid z0
  have HY0 := Lib.hid y0
  clear w0 z0 y0
  obtain ⟨AX1, cX1, rfl, -⟩ := w1.form
  have HX1 := Lib.hid w1
  have HZ1 := Lib.hid (And.intro z1 n1)
  have HY1 := Lib.hid y1
  clear w1 z1 n1 y1
  have HB0 : Hid (Below w.heap.size w (w.alloc (.cells #[.string x1.1, .string x1.2.1, .slice AX1 x1.2.2.length cX1] 24))) := Lib.hid ((Below.refl w.heap.size w).alloc (Nat.le_refl _) (.cells #[.string x1.1, .string x1.2.1, .slice AX1 x1.2.2.length cX1] 24))
  have HX : Hid (∀ wr, Below (w.heap.size + 1) (w.alloc (.cells #[.string x1.1, .string x1.2.1, .slice AX1 x1.2.2.length cX1] 24)) wr → wr.cell? ⟨w.heap.size, 0, none⟩ = some (.string x1.1) ∧ wr.cell? ⟨w.heap.size, 1, none⟩ = some (.string x1.2.1) ∧ wr.cell? ⟨w.heap.size, 2, none⟩ = some (.slice AX1 x1.2.2.length cX1)) := Lib.hid fun wr hw => ⟨(hw.cell (p := ⟨w.heap.size, 0, none⟩) (show w.heap.size < _ by omega)).trans (by simp), (hw.cell (p := ⟨w.heap.size, 1, none⟩) (show w.heap.size < _ by omega)).trans (by simp), (hw.cell (p := ⟨w.heap.size, 2, none⟩) (show w.heap.size < _ by omega)).trans (by simp)⟩
  go_enter Try.func6, Try.ntmps6
  go_wp2_with fail
  refine (szSlots_any w.heap.size _ l0 1048576 (w.alloc (.cells #[.string x1.1, .string x1.2.1, .slice AX1 x1.2.2.length cX1] 24)) HN0.out (fun x hx => ⟨(HY0.out x hx).1, (HY0.out x hx).2.1, (HY0.out x hx).2.2.1⟩) (Rep.below (R := SlotsR) HL0.out HB0.out (Nat.le_refl _)) (by first | omega | (simp <;> omega)) (by omega) (by omega)).mono ?_
  rintro e w101 ⟨r0, rfl, hr0, hb1⟩
  have zz101 : w.heap.size + 1 ≤ w101.heap.size := by have := hb1.size; simp at this; omega
  have hB1 : Below (w.heap.size + 1) (w.alloc (.cells #[.string x1.1, .string x1.2.1, .slice AX1 x1.2.2.length cX1] 24)) w101 := hb1.mono (by simp <;> omega)
  have hw1 : Below w.heap.size w w101 := HB0.out.trans (hb1.mono (by simp <;> omega))
  replace HL0 := Lib.hid (Rep.below (R := SlotsR) HL0.out hw1 (Nat.le_refl _))
  replace HX1 := Lib.hid (HX1.out.below hw1 (Nat.le_refl _))
  obtain ⟨x_0, x_1, x_2⟩ := HX.out w101 hB1
  rcases hr0 with rfl | ⟨hr0, hp0⟩
  · go_wp2
    go_ret
    exact ⟨rfl, (HB0.out.trans (hB1.mono (by first | omega | (simp <;> omega))))⟩
  have hz0 : slotsSz l0 ≤ 1048576 := by omega
  have hl0 := sz_len hz0
  have HS0 := Lib.hid (sz_reply hz0)
  have hq0 : r0 ≤ 1048576 := by omega
  have HR0 := Lib.hid hr0
  have HSZ0 := Lib.hid hz0
  clear hr0 hz0
  go_wp2_with fail
  refine (szSlot_any _ x1 r0 w101 HX1.out HZ1.out.1 HZ1.out.2 HY1.out.1 (by omega) (by omega)).mono ?_
  rintro e w102 ⟨r1, rfl, hr1, hb2⟩
  have zz102 : w101.heap.size ≤ w102.heap.size := hb2.size
  have hB2 := hB1.trans (hb2.mono (show w.heap.size + 1 ≤ _ by omega))
  replace HL0 := Lib.hid (Rep.below (R := SlotsR) HL0.out hb2 (by omega))
  replace HX1 := Lib.hid (HX1.out.below hb2 (by omega))
  clear x_0 x_1 x_2
  obtain ⟨x_0, x_1, x_2⟩ := HX.out w102 hB2
  rcases hr1 with rfl | ⟨hr1, hp1⟩
  · go_wp2
    go_ret
    exact ⟨rfl, (HB0.out.trans (hB2.mono (by first | omega | (simp <;> omega))))⟩
  have hxz1 : slotSz x1 ≤ 1048576 := by unfold slotSz; omega
  have hx1 : x1.2.2.length ≤ 1048576 := by unfold slotSz at hxz1; omega
  have hq1 : r1 ≤ 1048576 := by omega
  have HR1 := Lib.hid hr1
  have HXZ1 := Lib.hid hxz1
  clear hr1 hxz1
  have hwz : slotsSz (slotPutL l0 x1).1 ≤ 1048577 := by have h1 := slotsSz_snoc l0 x1; have h2 := slotPutL_sz l0 x1; have h3 := HR0.out; have h4 := HR1.out; unfold slotSz at h2; omega
  obtain ⟨wm, hwm⟩ : ∃ wm, wm = (slotPutL l0 x1).1 := ⟨_, rfl⟩
  obtain ⟨wk, hwk⟩ : ∃ wk, wk = (slotPutL l0 x1).2 := ⟨_, rfl⟩
  rw [← hwm] at hwz
  have hwl : wm.length ≤ 1048577 := sz_len hwz
  have HWS := Lib.hid (sz_reply hwz)
  have HWZ := Lib.hid hwz
  have HWM := Lib.hid hwm
  have HWK := Lib.hid hwk
  clear hwm hwk hwz
  go_upto_region 8 with fail
  have zW3 : w.heap.size < w102.heap.size := by omega
  have HTO3 := Lib.hid (fun W (hW : Below w102.heap.size w102 W) => toSlots_any w.heap.size _ l0 W hl0 HS0.out (Rep.below (R := SlotsR) HL0.out hW (by omega)) (Nat.le_trans (by omega) hW.size))
  have HTH3 := Lib.hid (fun W (hW : Below w102.heap.size w102 W) => toSlot_any w.heap.size _ x1 W hx1 (HX1.out.below hW (by omega)) (Nat.le_trans (by omega) hW.size))
  have HPU3 := Lib.hid (fun W hi v u (hr : SlotsR.rd hi W [v] l0) (hu : rd .u8 hi W u x1.2.2) (hi' : hi ≤ W.heap.size) => specSlotPut_any hi v u l0 x1 W hl0 HS0.out (fun x hx => ⟨(HY0.out x hx).1, (HY0.out x hx).2.1⟩) hx1 HZ1.out.1 HZ1.out.2 hr hu hi')
  rw [← HWM.out, ← HWK.out] at HPU3
  go_cut [6, 7] (fun uv ov wx => ∃ (A_3 : Option Addr) (c_3 : Nat), uv = .slice A_3 wm.length c_3 ∧ ov = .bool wk ∧ SlotsR.mine w102.heap.size wx.heap.size wx [uv] wm ∧ Below w102.heap.size w102 wx)
  case first =>
    have hD : Below w102.heap.size w102 w102.drew := (Below.refl _ _).drew
    have zD : w102.drew.heap.size = w102.heap.size := rfl
    go_region_held3 (fun V => V.cell? ⟨w.heap.size, 0, none⟩ = some (.string x1.1) ∧ V.cell? ⟨w.heap.size, 1, none⟩ = some (.string x1.2.1) ∧ V.cell? ⟨w.heap.size, 2, none⟩ = some (.slice AX1 x1.2.2.length cX1)) (go_keep) (first | (go_at_call 15; refine (HTO3.out _ hD).mono ?_; rintro e wA ⟨uA, rfl, huA, hbA⟩; obtain ⟨AA, cA, rfl, -⟩ := Rep.slice_form huA.rd; have zA := hbA.size; have qA0 : wA.cell? ⟨w.heap.size, 0, none⟩ = some (.string x1.1) := (by first | exact (hbA.cell (p := ⟨w.heap.size, 0, none⟩) (show w.heap.size < _ by omega)).trans x_0); have qA1 : wA.cell? ⟨w.heap.size, 1, none⟩ = some (.string x1.2.1) := (by first | exact (hbA.cell (p := ⟨w.heap.size, 1, none⟩) (show w.heap.size < _ by omega)).trans x_1); have qA2 : wA.cell? ⟨w.heap.size, 2, none⟩ = some (.slice AX1 x1.2.2.length cX1) := (by first | exact (hbA.cell (p := ⟨w.heap.size, 2, none⟩) (show w.heap.size < _ by omega)).trans x_2)) | (go_at_call 10; refine (HTH3.out _ (hD.trans hbA)).mono ?_; rintro e wB ⟨uB, rfl, huB, hbB⟩; obtain ⟨AB, cB, rfl, -⟩ := huB.form; have zB := hbB.size; have qB0 : wB.cell? ⟨w.heap.size, 0, none⟩ = some (.string x1.1) := (by first | exact (hbB.cell (p := ⟨w.heap.size, 0, none⟩) (show w.heap.size < _ by omega)).trans qA0); have qB1 : wB.cell? ⟨w.heap.size, 1, none⟩ = some (.string x1.2.1) := (by first | exact (hbB.cell (p := ⟨w.heap.size, 1, none⟩) (show w.heap.size < _ by omega)).trans qA1); have qB2 : wB.cell? ⟨w.heap.size, 2, none⟩ = some (.slice AX1 x1.2.2.length cX1) := (by first | exact (hbB.cell (p := ⟨w.heap.size, 2, none⟩) (show w.heap.size < _ by omega)).trans qA2)) | (go_at_call 24; refine (HPU3.out _ wB.heap.size _ _ (huA.below hbB (Nat.le_refl _) |> fun h => SlotsR.rd_mono h.rd (by omega)) huB.rd (Nat.le_refl _)).mono ?_; rintro e wC ⟨uC, rfl, huC, hbC⟩; obtain ⟨AC, cC, rfl, -⟩ := Rep.slice_form huC.rd; have zC := hbC.size; have qC0 : wC.cell? ⟨w.heap.size, 0, none⟩ = some (.string x1.1) := (by first | exact (hbC.cell (p := ⟨w.heap.size, 0, none⟩) (show w.heap.size < _ by omega)).trans qB0); have qC1 : wC.cell? ⟨w.heap.size, 1, none⟩ = some (.string x1.2.1) := (by first | exact (hbC.cell (p := ⟨w.heap.size, 1, none⟩) (show w.heap.size < _ by omega)).trans qB1); have qC2 : wC.cell? ⟨w.heap.size, 2, none⟩ = some (.slice AX1 x1.2.2.length cX1) := (by first | exact (hbC.cell (p := ⟨w.heap.size, 2, none⟩) (show w.heap.size < _ by omega)).trans qB2)) | fail)
    all_goals (go_wp2; go_meet)
    all_goals exact ⟨AC, cC, rfl, rfl, huC.mono (by omega) (Nat.le_refl _), ((hD.trans hbA).trans (hbB.mono (show w102.heap.size ≤ _ by omega))).trans (hbC.mono (show w102.heap.size ≤ _ by omega))⟩
  case rest =>
    obtain ⟨A_3, c_3, rfl, rfl, hu3, hb3⟩ := hcut
    have zz103 : w102.heap.size ≤ wc.heap.size := hb3.size
    have hB3 := hB2.trans (hb3.mono (show w.heap.size + 1 ≤ _ by omega))
    replace HL0 := Lib.hid (Rep.below (R := SlotsR) HL0.out hb3 (by omega))
    replace HX1 := Lib.hid (HX1.out.below hb3 (by omega))
    have HW := Lib.hid hu3
    have HNX3 : ∃ V, V = wc := ⟨_, rfl⟩
    obtain ⟨w103, hVV⟩ := HNX3
    subst hVV
    clear x_0 x_1 x_2
    obtain ⟨x_0, x_1, x_2⟩ := HX.out w103 hB3
    go_wp2_with fail
    refine (toSlots_any w.heap.size _ l0 w103 hl0 HS0.out HL0.out (by omega)).mono ?_
    rintro e w104 ⟨u_4, rfl, hu4, hb4⟩
    obtain ⟨A_4, c_4, rfl, -⟩ := Rep.slice_form hu4.rd
    have zz104 : w103.heap.size ≤ w104.heap.size := hb4.size
    have hB4 := hB3.trans (hb4.mono (show w.heap.size + 1 ≤ _ by omega))
    replace HL0 := Lib.hid (Rep.below (R := SlotsR) HL0.out hb4 (by omega))
    replace HX1 := Lib.hid (HX1.out.below hb4 (by omega))
    replace HW := Lib.hid (HW.out.below hb4 (by omega))
    clear x_0 x_1 x_2
    obtain ⟨x_0, x_1, x_2⟩ := HX.out w104 hB4
    have H4 := Lib.hid hu4
    go_wp2_with fail
    refine (toSlot_any w.heap.size _ x1 w104 hx1 HX1.out (by omega)).mono ?_
    rintro e w105 ⟨u_5, rfl, hu5, hb5⟩
    obtain ⟨A_5, c_5, rfl, -⟩ := hu5.form
    have zz105 : w104.heap.size ≤ w105.heap.size := hb5.size
    have hB5 := hB4.trans (hb5.mono (show w.heap.size + 1 ≤ _ by omega))
    replace HL0 := Lib.hid (Rep.below (R := SlotsR) HL0.out hb5 (by omega))
    replace HX1 := Lib.hid (HX1.out.below hb5 (by omega))
    replace HW := Lib.hid (HW.out.below hb5 (by omega))
    replace H4 := Lib.hid (H4.out.below hb5 (by omega))
    clear x_0 x_1 x_2
    obtain ⟨x_0, x_1, x_2⟩ := HX.out w105 hB5
    have H9 := Lib.hid hu5
    have yy5_0 : w.heap.size < w105.heap.size := by omega
    go_wp2_with fail
    have hb6 := (Below.refl w105.heap.size w105).alloc (Nat.le_refl _) (.cells #[.string x1.1, .string x1.2.1, .slice A_5 x1.2.2.length c_5] 27)
    have hX9 := heap_alloc_new w105 (.cells #[.string x1.1, .string x1.2.1, .slice A_5 x1.2.2.length c_5] 27)
    generalize w105.alloc (.cells #[.string x1.1, .string x1.2.1, .slice A_5 x1.2.2.length c_5] 27) = w106 at hb6 hX9 ⊢
    have zz106 : w105.heap.size ≤ w106.heap.size := hb6.size
    have zl6 : w105.heap.size < w106.heap.size := lt_of_block hX9
    have hB6 := hB5.trans (hb6.mono (show w.heap.size + 1 ≤ _ by omega))
    replace HL0 := Lib.hid (Rep.below (R := SlotsR) HL0.out hb6 (by omega))
    replace HX1 := Lib.hid (HX1.out.below hb6 (by omega))
    replace HW := Lib.hid (HW.out.below hb6 (by omega))
    replace H4 := Lib.hid (H4.out.below hb6 (by omega))
    replace H9 := Lib.hid (H9.out.below hb6 (by omega))
    have X9 := Lib.hid hX9
    clear hX9
    clear x_0 x_1 x_2
    obtain ⟨x_0, x_1, x_2⟩ := HX.out w106 hB6
    have X9c0 := cell_of_row _ _ 0 _ _ (0, 0) X9.out
    have X9c1 := cell_of_row _ _ 1 _ _ (0, 0) X9.out
    have X9c2 := cell_of_row _ _ 2 _ _ (0, 0) X9.out
    simp only [List.getElem?_toArray, List.getElem?_cons_zero, List.getElem?_cons_succ] at X9c0 X9c1 X9c2
    go_wp2_with fail
    refine (implSlotPut_any _ _ _ l0 x1 w106 hl0 HS0.out (fun x hx => ⟨(HY0.out x hx).1, (HY0.out x hx).2.1⟩) hx1 HZ1.out.1 HZ1.out.2 (SlotsR.rd_mono H4.out.rd (by omega)) H9.out.rd (by omega)).mono ?_
    rintro e w107 ⟨u_7, rfl, hu7, hb7⟩
    rw [← HWM.out] at hu7
    rw [← HWK.out]
    obtain ⟨A_7, c_7, rfl, -⟩ := Rep.slice_form hu7.rd
    have zz107 : w106.heap.size ≤ w107.heap.size := hb7.size
    have hB7 := hB6.trans (hb7.mono (show w.heap.size + 1 ≤ _ by omega))
    replace HL0 := Lib.hid (Rep.below (R := SlotsR) HL0.out hb7 (by omega))
    replace HX1 := Lib.hid (HX1.out.below hb7 (by omega))
    replace HW := Lib.hid (HW.out.below hb7 (by omega))
    replace H4 := Lib.hid (H4.out.below hb7 (by omega))
    replace H9 := Lib.hid (H9.out.below hb7 (by omega))
    replace X9 := Lib.hid ((hb7.block _ (by omega)).trans X9.out)
    clear x_0 x_1 x_2
    obtain ⟨x_0, x_1, x_2⟩ := HX.out w107 hB7
    have HG := Lib.hid hu7
    clear X9c0 X9c1 X9c2
    have X9c0 := cell_of_row _ _ 0 _ _ (0, 0) X9.out
    have X9c1 := cell_of_row _ _ 1 _ _ (0, 0) X9.out
    have X9c2 := cell_of_row _ _ 2 _ _ (0, 0) X9.out
    simp only [List.getElem?_toArray, List.getElem?_cons_zero, List.getElem?_cons_succ] at X9c0 X9c1 X9c2
    go_wp2_with fail
    refine (eqSlots_any _ _ _ _ wm w107 (by omega) (fun x hx => Nat.le_trans (HWS.out x hx) (by omega)) HG.out.rd HW.out.rd (by omega) (by omega)).mono ?_
    rintro e w108 ⟨rfl, hb8⟩
    have zz108 : w107.heap.size ≤ w108.heap.size := hb8.size
    have hB8 := hB7.trans (hb8.mono (show w.heap.size + 1 ≤ _ by omega))
    replace HL0 := Lib.hid (Rep.below (R := SlotsR) HL0.out hb8 (by omega))
    replace HX1 := Lib.hid (HX1.out.below hb8 (by omega))
    replace HW := Lib.hid (HW.out.below hb8 (by omega))
    replace H4 := Lib.hid (H4.out.below hb8 (by omega))
    replace H9 := Lib.hid (H9.out.below hb8 (by omega))
    replace X9 := Lib.hid ((hb8.block _ (by omega)).trans X9.out)
    replace HG := Lib.hid (HG.out.below hb8 (by omega))
    clear x_0 x_1 x_2
    obtain ⟨x_0, x_1, x_2⟩ := HX.out w108 hB8
    clear X9c0 X9c1 X9c2
    have X9c0 := cell_of_row _ _ 0 _ _ (0, 0) X9.out
    have X9c1 := cell_of_row _ _ 1 _ _ (0, 0) X9.out
    have X9c2 := cell_of_row _ _ 2 _ _ (0, 0) X9.out
    simp only [List.getElem?_toArray, List.getElem?_cons_zero, List.getElem?_cons_succ] at X9c0 X9c1 X9c2
    go_wp2_with fail
    refine (toSlots_any w.heap.size _ l0 w108 hl0 HS0.out HL0.out (by omega)).mono ?_
    rintro e w109 ⟨u_9, rfl, hu9, hb9⟩
    obtain ⟨A_9, c_9, rfl, -⟩ := Rep.slice_form hu9.rd
    have zz109 : w108.heap.size ≤ w109.heap.size := hb9.size
    have hB9 := hB8.trans (hb9.mono (show w.heap.size + 1 ≤ _ by omega))
    replace HL0 := Lib.hid (Rep.below (R := SlotsR) HL0.out hb9 (by omega))
    replace HX1 := Lib.hid (HX1.out.below hb9 (by omega))
    replace HW := Lib.hid (HW.out.below hb9 (by omega))
    replace H4 := Lib.hid (H4.out.below hb9 (by omega))
    replace H9 := Lib.hid (H9.out.below hb9 (by omega))
    replace X9 := Lib.hid ((hb9.block _ (by omega)).trans X9.out)
    replace HG := Lib.hid (HG.out.below hb9 (by omega))
    clear x_0 x_1 x_2
    obtain ⟨x_0, x_1, x_2⟩ := HX.out w109 hB9
    have HE := Lib.hid hu9
    clear X9c0 X9c1 X9c2
    have X9c0 := cell_of_row _ _ 0 _ _ (0, 0) X9.out
    have X9c1 := cell_of_row _ _ 1 _ _ (0, 0) X9.out
    have X9c2 := cell_of_row _ _ 2 _ _ (0, 0) X9.out
    simp only [List.getElem?_toArray, List.getElem?_cons_zero, List.getElem?_cons_succ] at X9c0 X9c1 X9c2
    go_wp2_with fail
    refine (eqSlots_any _ _ _ _ l0 w109 (by omega) (fun x hx => Nat.le_trans (HS0.out x hx) (by omega)) H4.out.rd HE.out.rd (by omega) (by omega)).mono ?_
    rintro e w110 ⟨rfl, hb10⟩
    have zz110 : w109.heap.size ≤ w110.heap.size := hb10.size
    have hB10 := hB9.trans (hb10.mono (show w.heap.size + 1 ≤ _ by omega))
    replace HL0 := Lib.hid (Rep.below (R := SlotsR) HL0.out hb10 (by omega))
    replace HX1 := Lib.hid (HX1.out.below hb10 (by omega))
    replace HW := Lib.hid (HW.out.below hb10 (by omega))
    replace H4 := Lib.hid (H4.out.below hb10 (by omega))
    replace H9 := Lib.hid (H9.out.below hb10 (by omega))
    replace X9 := Lib.hid ((hb10.block _ (by omega)).trans X9.out)
    replace HG := Lib.hid (HG.out.below hb10 (by omega))
    replace HE := Lib.hid (HE.out.below hb10 (by omega))
    clear x_0 x_1 x_2
    obtain ⟨x_0, x_1, x_2⟩ := HX.out w110 hB10
    clear X9c0 X9c1 X9c2
    have X9c0 := cell_of_row _ _ 0 _ _ (0, 0) X9.out
    have X9c1 := cell_of_row _ _ 1 _ _ (0, 0) X9.out
    have X9c2 := cell_of_row _ _ 2 _ _ (0, 0) X9.out
    simp only [List.getElem?_toArray, List.getElem?_cons_zero, List.getElem?_cons_succ] at X9c0 X9c1 X9c2
    clear HE
    go_wp2
    have hD : Below w110.heap.size w110 w110.drew := (Below.refl _ _).drew
    have zD : w110.drew.heap.size = w110.heap.size := rfl
    go_region_held3 (fun V => V.cell? ⟨w105.heap.size, 0, none⟩ = some (.string x1.1) ∧ V.cell? ⟨w105.heap.size, 1, none⟩ = some (.string x1.2.1) ∧ V.cell? ⟨w105.heap.size, 2, none⟩ = some (.slice A_5 x1.2.2.length c_5) ∧ V.cell? ⟨w.heap.size, 0, none⟩ = some (.string x1.1) ∧ V.cell? ⟨w.heap.size, 1, none⟩ = some (.string x1.2.1) ∧ V.cell? ⟨w.heap.size, 2, none⟩ = some (.slice AX1 x1.2.2.length cX1)) (go_keep) (first | (go_at_call 10; refine (toSlot_any w.heap.size _ x1 w110.drew hx1 (HX1.out.below hD (by omega)) (show w.heap.size ≤ w110.heap.size by omega)).mono ?_; rintro e w111 ⟨uq, rfl, huq, hbq⟩; obtain ⟨Aq, cq, rfl, -⟩ := huq.form; have zq := hbq.size; have qa0 := (hbq.cell (p := ⟨w105.heap.size, 0, none⟩) (show w105.heap.size < _ by omega)).trans X9c0; have qa1 := (hbq.cell (p := ⟨w105.heap.size, 1, none⟩) (show w105.heap.size < _ by omega)).trans X9c1; have qa2 := (hbq.cell (p := ⟨w105.heap.size, 2, none⟩) (show w105.heap.size < _ by omega)).trans X9c2; have qa3 := (hbq.cell (p := ⟨w.heap.size, 0, none⟩) (show w.heap.size < _ by omega)).trans x_0; have qa4 := (hbq.cell (p := ⟨w.heap.size, 1, none⟩) (show w.heap.size < _ by omega)).trans x_1; have qa5 := (hbq.cell (p := ⟨w.heap.size, 2, none⟩) (show w.heap.size < _ by omega)).trans x_2) | (go_at_call 12; refine (eqSlot_any _ _ _ _ x1 w111 (by omega) ((H9.out.rd.below hD (by omega)).below hbq (by omega)) huq.rd (by omega) (by omega)).mono ?_; rintro e w112 ⟨rfl, hbr⟩; have qb0 := (hbr.cell (p := ⟨w105.heap.size, 0, none⟩) (show w105.heap.size < _ by omega)).trans qa0; have qb1 := (hbr.cell (p := ⟨w105.heap.size, 1, none⟩) (show w105.heap.size < _ by omega)).trans qa1; have qb2 := (hbr.cell (p := ⟨w105.heap.size, 2, none⟩) (show w105.heap.size < _ by omega)).trans qa2; have qb3 := (hbr.cell (p := ⟨w.heap.size, 0, none⟩) (show w.heap.size < _ by omega)).trans qa3; have qb4 := (hbr.cell (p := ⟨w.heap.size, 1, none⟩) (show w.heap.size < _ by omega)).trans qa4; have qb5 := (hbr.cell (p := ⟨w.heap.size, 2, none⟩) (show w.heap.size < _ by omega)).trans qa5) | fail)
    have hb12 : Below w110.heap.size w110 w112 := (hD.trans (hbq.mono (show w110.heap.size ≤ _ by omega))).trans (hbr.mono (show w110.heap.size ≤ _ by omega))
    have hB12 := hB10.trans (hb12.mono (show w.heap.size + 1 ≤ _ by omega))
    have zz112 : w110.heap.size ≤ w112.heap.size := hb12.size
    clear hbq hbr huq qa0 qb0 qa1 qb1 qa2 qb2 qa3 qb3 qa4 qb4 qa5 qb5 hD zD
    replace HL0 := Lib.hid (Rep.below (R := SlotsR) HL0.out hb12 (by omega))
    replace HX1 := Lib.hid (HX1.out.below hb12 (by omega))
    replace HW := Lib.hid (HW.out.below hb12 (by omega))
    replace H4 := Lib.hid (H4.out.below hb12 (by omega))
    replace H9 := Lib.hid (H9.out.below hb12 (by omega))
    replace X9 := Lib.hid ((hb12.block _ (by omega)).trans X9.out)
    replace HG := Lib.hid (HG.out.below hb12 (by omega))
    clear x_0 x_1 x_2
    obtain ⟨x_0, x_1, x_2⟩ := HX.out w112 hB12
    clear X9c0 X9c1 X9c2
    have X9c0 := cell_of_row _ _ 0 _ _ (0, 0) X9.out
    have X9c1 := cell_of_row _ _ 1 _ _ (0, 0) X9.out
    have X9c2 := cell_of_row _ _ 2 _ _ (0, 0) X9.out
    simp only [List.getElem?_toArray, List.getElem?_cons_zero, List.getElem?_cons_succ] at X9c0 X9c1 X9c2
    go_wp2_with fail
    refine (markSlots_any _ _ _ l0 1 w112 (by decide) (sz_marks HSZ0.out (by decide)) H4.out (by omega)).mono ?_
    rintro e w113 ⟨rfl, hmk13, ht13⟩
    have zz113 : w112.heap.size ≤ w113.heap.size := ht13.size
    have hB13 := hB12.trans (ht13.below (show w.heap.size + 1 ≤ _ by omega) (by omega))
    replace HL0 := Lib.hid (Rep.turned (R := SlotsR) HL0.out ht13 (by omega) (by omega))
    replace HX1 := Lib.hid (HX1.out.turned ht13 (by omega) (by omega))
    replace HW := Lib.hid (HW.out.turned ht13 (by omega) (by omega))
    replace H9 := Lib.hid (H9.out.turned ht13 (by omega) (by omega))
    replace X9 := Lib.hid ((ht13.block _ (by omega) (by omega)).trans X9.out)
    replace HG := Lib.hid (HG.out.turned ht13 (by omega) (by omega))
    clear H4
    clear x_0 x_1 x_2
    obtain ⟨x_0, x_1, x_2⟩ := HX.out w113 hB13
    clear X9c0 X9c1 X9c2
    have X9c0 := cell_of_row _ _ 0 _ _ (0, 0) X9.out
    have X9c1 := cell_of_row _ _ 1 _ _ (0, 0) X9.out
    have X9c2 := cell_of_row _ _ 2 _ _ (0, 0) X9.out
    simp only [List.getElem?_toArray, List.getElem?_cons_zero, List.getElem?_cons_succ] at X9c0 X9c1 X9c2
    have HKU := Lib.hid (kAt_up l0 1)
    have HKS := Lib.hid (kAt_sz HSZ0.out 1)
    generalize kAt 1 (lensOf l0) l0.length = K0 at HKU HKS ⊢
    have hku := HKU.out
    have hks := HKS.out
    go_wp2_with fail
    refine (markSlot_any _ _ _ x1 K0 w113 (by omega) (by omega) (by omega) H9.out (by omega)).mono ?_
    rintro e w114 ⟨rfl, hmk14, ht14⟩
    have zz114 : w113.heap.size ≤ w114.heap.size := ht14.size
    have hB14 := hB13.trans (ht14.below (show w.heap.size + 1 ≤ _ by omega) (by omega))
    replace HL0 := Lib.hid (Rep.turned (R := SlotsR) HL0.out ht14 (by omega) (by omega))
    replace HX1 := Lib.hid (HX1.out.turned ht14 (by omega) (by omega))
    replace HW := Lib.hid (HW.out.turned ht14 (by omega) (by omega))
    replace X9 := Lib.hid ((ht14.block _ (by omega) (by omega)).trans X9.out)
    replace HG := Lib.hid (HG.out.turned ht14 (by omega) (by omega))
    clear H9
    clear x_0 x_1 x_2
    obtain ⟨x_0, x_1, x_2⟩ := HX.out w114 hB14
    clear X9c0 X9c1 X9c2
    have X9c0 := cell_of_row _ _ 0 _ _ (0, 0) X9.out
    have X9c1 := cell_of_row _ _ 1 _ _ (0, 0) X9.out
    have X9c2 := cell_of_row _ _ 2 _ _ (0, 0) X9.out
    simp only [List.getElem?_toArray, List.getElem?_cons_zero, List.getElem?_cons_succ] at X9c0 X9c1 X9c2
    have kk : ¬ (K0 + (x1.2.2.length : Int) < 0) := by omega
    go_wp2_with fail
    refine (eqSlots_any _ _ _ _ wm w114 (by omega) (fun x hx => Nat.le_trans (HWS.out x hx) (by omega)) HG.out.rd HW.out.rd (by omega) (by omega)).mono ?_
    rintro e w115 ⟨rfl, hb15⟩
    have zz115 : w114.heap.size ≤ w115.heap.size := hb15.size
    have hB15 := hB14.trans (hb15.mono (show w.heap.size + 1 ≤ _ by omega))
    replace HL0 := Lib.hid (Rep.below (R := SlotsR) HL0.out hb15 (by omega))
    replace HX1 := Lib.hid (HX1.out.below hb15 (by omega))
    replace HW := Lib.hid (HW.out.below hb15 (by omega))
    replace X9 := Lib.hid ((hb15.block _ (by omega)).trans X9.out)
    replace HG := Lib.hid (HG.out.below hb15 (by omega))
    clear x_0 x_1 x_2
    obtain ⟨x_0, x_1, x_2⟩ := HX.out w115 hB15
    clear X9c0 X9c1 X9c2
    have X9c0 := cell_of_row _ _ 0 _ _ (0, 0) X9.out
    have X9c1 := cell_of_row _ _ 1 _ _ (0, 0) X9.out
    have X9c2 := cell_of_row _ _ 2 _ _ (0, 0) X9.out
    simp only [List.getElem?_toArray, List.getElem?_cons_zero, List.getElem?_cons_succ] at X9c0 X9c1 X9c2
    go_wp2_with fail
    refine (markSlots_any _ _ _ wm 1 w115 (by decide) (sz_marks HWZ.out (by decide)) HG.out (by omega)).mono ?_
    rintro e w116 ⟨rfl, hmk16, ht16⟩
    have zz116 : w115.heap.size ≤ w116.heap.size := ht16.size
    have hB16 := hB15.trans (ht16.below (show w.heap.size + 1 ≤ _ by omega) (by omega))
    replace HL0 := Lib.hid (Rep.turned (R := SlotsR) HL0.out ht16 (by omega) (by omega))
    replace HX1 := Lib.hid (HX1.out.turned ht16 (by omega) (by omega))
    replace HW := Lib.hid (HW.out.turned ht16 (by omega) (by omega))
    replace X9 := Lib.hid ((ht16.block _ (by omega) (by omega)).trans X9.out)
    clear HG
    clear x_0 x_1 x_2
    obtain ⟨x_0, x_1, x_2⟩ := HX.out w116 hB16
    have HM := Lib.hid hmk16
    clear X9c0 X9c1 X9c2
    have X9c0 := cell_of_row _ _ 0 _ _ (0, 0) X9.out
    have X9c1 := cell_of_row _ _ 1 _ _ (0, 0) X9.out
    have X9c2 := cell_of_row _ _ 2 _ _ (0, 0) X9.out
    simp only [List.getElem?_toArray, List.getElem?_cons_zero, List.getElem?_cons_succ] at X9c0 X9c1 X9c2
    have kk2 : ¬ (kAt 1 (lensOf wm) wm.length < 0) := by have := kAt_up wm 1; omega
    go_wp2_with fail
    refine (heldSlots_any _ _ (lensOf wm) 1 w116 (by decide) (by rw [lensOf_len]; exact sz_marks HWZ.out (by decide)) HM.out.rd (by omega)).mono ?_
    rintro e w117 ⟨rfl, hb17⟩
    rw [lensOf_len]
    have zz117 : w116.heap.size ≤ w117.heap.size := hb17.size
    have hB17 := hB16.trans (hb17.mono (show w.heap.size + 1 ≤ _ by omega))
    replace HL0 := Lib.hid (Rep.below (R := SlotsR) HL0.out hb17 (by omega))
    replace HX1 := Lib.hid (HX1.out.below hb17 (by omega))
    replace HW := Lib.hid (HW.out.below hb17 (by omega))
    replace X9 := Lib.hid ((hb17.block _ (by omega)).trans X9.out)
    replace HM := Lib.hid (HM.out.below hb17 (by omega))
    clear x_0 x_1 x_2
    obtain ⟨x_0, x_1, x_2⟩ := HX.out w117 hB17
    clear X9c0 X9c1 X9c2
    have X9c0 := cell_of_row _ _ 0 _ _ (0, 0) X9.out
    have X9c1 := cell_of_row _ _ 1 _ _ (0, 0) X9.out
    have X9c2 := cell_of_row _ _ 2 _ _ (0, 0) X9.out
    simp only [List.getElem?_toArray, List.getElem?_cons_zero, List.getElem?_cons_succ] at X9c0 X9c1 X9c2
    go_upto_region 31 with fail
    have zW18 : w.heap.size < w117.heap.size := by omega
    have HTO18 := Lib.hid (fun W (hW : Below w117.heap.size w117 W) => toSlots_any w.heap.size _ l0 W hl0 HS0.out (Rep.below (R := SlotsR) HL0.out hW (by omega)) (Nat.le_trans (by omega) hW.size))
    have HTH18 := Lib.hid (fun W (hW : Below w117.heap.size w117 W) => toSlot_any w.heap.size _ x1 W hx1 (HX1.out.below hW (by omega)) (Nat.le_trans (by omega) hW.size))
    have HPU18 := Lib.hid (fun W hi v u (hr : SlotsR.rd hi W [v] l0) (hu : rd .u8 hi W u x1.2.2) (hi' : hi ≤ W.heap.size) => implSlotPut_any hi v u l0 x1 W hl0 HS0.out (fun x hx => ⟨(HY0.out x hx).1, (HY0.out x hx).2.1⟩) hx1 HZ1.out.1 HZ1.out.2 hr hu hi')
    rw [← HWM.out, ← HWK.out] at HPU18
    go_cut [15, 16] (fun uv ov wx => ∃ (A_18 : Option Addr) (c_18 : Nat), uv = .slice A_18 wm.length c_18 ∧ ov = .bool wk ∧ SlotsR.mine w117.heap.size wx.heap.size wx [uv] wm ∧ Below w117.heap.size w117 wx)
    case first =>
      have hD : Below w117.heap.size w117 w117.drew := (Below.refl _ _).drew
      have zD : w117.drew.heap.size = w117.heap.size := rfl
      go_region_held3 (fun V => V.cell? ⟨w.heap.size, 0, none⟩ = some (.string x1.1) ∧ V.cell? ⟨w.heap.size, 1, none⟩ = some (.string x1.2.1) ∧ V.cell? ⟨w.heap.size, 2, none⟩ = some (.slice AX1 x1.2.2.length cX1)) (go_keep) (first | (go_at_call 15; refine (HTO18.out _ hD).mono ?_; rintro e wA ⟨uA, rfl, huA, hbA⟩; obtain ⟨AA, cA, rfl, -⟩ := Rep.slice_form huA.rd; have zA := hbA.size; have qA0 : wA.cell? ⟨w.heap.size, 0, none⟩ = some (.string x1.1) := (by first | exact (hbA.cell (p := ⟨w.heap.size, 0, none⟩) (show w.heap.size < _ by omega)).trans x_0); have qA1 : wA.cell? ⟨w.heap.size, 1, none⟩ = some (.string x1.2.1) := (by first | exact (hbA.cell (p := ⟨w.heap.size, 1, none⟩) (show w.heap.size < _ by omega)).trans x_1); have qA2 : wA.cell? ⟨w.heap.size, 2, none⟩ = some (.slice AX1 x1.2.2.length cX1) := (by first | exact (hbA.cell (p := ⟨w.heap.size, 2, none⟩) (show w.heap.size < _ by omega)).trans x_2)) | (go_at_call 10; refine (HTH18.out _ (hD.trans hbA)).mono ?_; rintro e wB ⟨uB, rfl, huB, hbB⟩; obtain ⟨AB, cB, rfl, -⟩ := huB.form; have zB := hbB.size; have qB0 : wB.cell? ⟨w.heap.size, 0, none⟩ = some (.string x1.1) := (by first | exact (hbB.cell (p := ⟨w.heap.size, 0, none⟩) (show w.heap.size < _ by omega)).trans qA0); have qB1 : wB.cell? ⟨w.heap.size, 1, none⟩ = some (.string x1.2.1) := (by first | exact (hbB.cell (p := ⟨w.heap.size, 1, none⟩) (show w.heap.size < _ by omega)).trans qA1); have qB2 : wB.cell? ⟨w.heap.size, 2, none⟩ = some (.slice AX1 x1.2.2.length cX1) := (by first | exact (hbB.cell (p := ⟨w.heap.size, 2, none⟩) (show w.heap.size < _ by omega)).trans qA2)) | (go_at_call 25; refine (HPU18.out _ wB.heap.size _ _ (huA.below hbB (Nat.le_refl _) |> fun h => SlotsR.rd_mono h.rd (by omega)) huB.rd (Nat.le_refl _)).mono ?_; rintro e wC ⟨uC, rfl, huC, hbC⟩; obtain ⟨AC, cC, rfl, -⟩ := Rep.slice_form huC.rd; have zC := hbC.size; have qC0 : wC.cell? ⟨w.heap.size, 0, none⟩ = some (.string x1.1) := (by first | exact (hbC.cell (p := ⟨w.heap.size, 0, none⟩) (show w.heap.size < _ by omega)).trans qB0); have qC1 : wC.cell? ⟨w.heap.size, 1, none⟩ = some (.string x1.2.1) := (by first | exact (hbC.cell (p := ⟨w.heap.size, 1, none⟩) (show w.heap.size < _ by omega)).trans qB1); have qC2 : wC.cell? ⟨w.heap.size, 2, none⟩ = some (.slice AX1 x1.2.2.length cX1) := (by first | exact (hbC.cell (p := ⟨w.heap.size, 2, none⟩) (show w.heap.size < _ by omega)).trans qB2)) | fail)
      all_goals (go_wp2; go_meet)
      all_goals exact ⟨AC, cC, rfl, rfl, huC.mono (by omega) (Nat.le_refl _), ((hD.trans hbA).trans (hbB.mono (show w117.heap.size ≤ _ by omega))).trans (hbC.mono (show w117.heap.size ≤ _ by omega))⟩
    case rest =>
      obtain ⟨A_18, c_18, rfl, rfl, hu18, hb18⟩ := hcut
      have zz118 : w117.heap.size ≤ wc.heap.size := hb18.size
      have hB18 := hB17.trans (hb18.mono (show w.heap.size + 1 ≤ _ by omega))
      replace HL0 := Lib.hid (Rep.below (R := SlotsR) HL0.out hb18 (by omega))
      replace HX1 := Lib.hid (HX1.out.below hb18 (by omega))
      replace HW := Lib.hid (HW.out.below hb18 (by omega))
      replace X9 := Lib.hid ((hb18.block _ (by omega)).trans X9.out)
      replace HM := Lib.hid (HM.out.below hb18 (by omega))
      have HH := Lib.hid hu18
      have HNX18 : ∃ V, V = wc := ⟨_, rfl⟩
      obtain ⟨w118, hVV⟩ := HNX18
      subst hVV
      clear x_0 x_1 x_2
      obtain ⟨x_0, x_1, x_2⟩ := HX.out w118 hB18
      clear X9c0 X9c1 X9c2
      have X9c0 := cell_of_row _ _ 0 _ _ (0, 0) X9.out
      have X9c1 := cell_of_row _ _ 1 _ _ (0, 0) X9.out
      have X9c2 := cell_of_row _ _ 2 _ _ (0, 0) X9.out
      simp only [List.getElem?_toArray, List.getElem?_cons_zero, List.getElem?_cons_succ] at X9c0 X9c1 X9c2
      go_wp2_with fail
      refine (eqSlots_any _ _ _ _ wm w118 (by omega) (fun x hx => Nat.le_trans (HWS.out x hx) (by omega)) HH.out.rd HW.out.rd (by omega) (by omega)).mono ?_
      rintro e w119 ⟨rfl, hb19⟩
      have zz119 : w118.heap.size ≤ w119.heap.size := hb19.size
      have hB19 := hB18.trans (hb19.mono (show w.heap.size + 1 ≤ _ by omega))
      replace HL0 := Lib.hid (Rep.below (R := SlotsR) HL0.out hb19 (by omega))
      replace HX1 := Lib.hid (HX1.out.below hb19 (by omega))
      replace HW := Lib.hid (HW.out.below hb19 (by omega))
      replace X9 := Lib.hid ((hb19.block _ (by omega)).trans X9.out)
      replace HM := Lib.hid (HM.out.below hb19 (by omega))
      replace HH := Lib.hid (HH.out.below hb19 (by omega))
      clear x_0 x_1 x_2
      obtain ⟨x_0, x_1, x_2⟩ := HX.out w119 hB19
      clear X9c0 X9c1 X9c2
      have X9c0 := cell_of_row _ _ 0 _ _ (0, 0) X9.out
      have X9c1 := cell_of_row _ _ 1 _ _ (0, 0) X9.out
      have X9c2 := cell_of_row _ _ 2 _ _ (0, 0) X9.out
      simp only [List.getElem?_toArray, List.getElem?_cons_zero, List.getElem?_cons_succ] at X9c0 X9c1 X9c2
      go_wp2_with fail
      refine (heldSlots_any _ _ (lensOf wm) 1 w119 (by decide) (by rw [lensOf_len]; exact sz_marks HWZ.out (by decide)) HM.out.rd (by omega)).mono ?_
      rintro e w120 ⟨rfl, hb20⟩
      rw [lensOf_len]
      have zz120 : w119.heap.size ≤ w120.heap.size := hb20.size
      have hB20 := hB19.trans (hb20.mono (show w.heap.size + 1 ≤ _ by omega))
      replace HL0 := Lib.hid (Rep.below (R := SlotsR) HL0.out hb20 (by omega))
      replace HX1 := Lib.hid (HX1.out.below hb20 (by omega))
      replace HW := Lib.hid (HW.out.below hb20 (by omega))
      replace X9 := Lib.hid ((hb20.block _ (by omega)).trans X9.out)
      replace HM := Lib.hid (HM.out.below hb20 (by omega))
      replace HH := Lib.hid (HH.out.below hb20 (by omega))
      clear x_0 x_1 x_2
      obtain ⟨x_0, x_1, x_2⟩ := HX.out w120 hB20
      clear X9c0 X9c1 X9c2
      have X9c0 := cell_of_row _ _ 0 _ _ (0, 0) X9.out
      have X9c1 := cell_of_row _ _ 1 _ _ (0, 0) X9.out
      have X9c2 := cell_of_row _ _ 2 _ _ (0, 0) X9.out
      simp only [List.getElem?_toArray, List.getElem?_cons_zero, List.getElem?_cons_succ] at X9c0 X9c1 X9c2
      go_wp2
      go_ret
      exact ⟨rfl, (HB0.out.trans (hB20.mono (by first | omega | (simp <;> omega))))⟩


set_option maxRecDepth 100000 in
theorem laidOut : laidOutB Try.prog = true := by kernel_rfl
set_option maxRecDepth 100000 in
theorem rowed : allRowed Try.prog Try.f6.params.toList = true := by kernel_rfl
set_option maxRecDepth 100000 in
theorem resT : Try.f6.resultTypes = #[4] := by kernel_rfl
set_option maxRecDepth 100000 in
theorem lifted (os : Os) (started : os.Started) (H : Type) (enc : TypeId × Value → H) :
    ReturnsInHanded {} Try.checked os 6 .any (Rows.fnExactSlotPutSpec.pre6 enc Try.prog Try.f6 Rows.fnExactSlotPutRow.domain false) (Rows.fnExactSlotPutSpec.post enc Try.prog Try.f6 false true false false) := by
  refine returnsInHanded_of_change (C := Try.checked) own started (by kernel_rfl) Try.func6
    (ChangeSpec.witness6 (enc := enc) (C := Try.checked) false ⟨#[], #[.slice none 0 0, .agg #[.string ByteArray.empty, .string ByteArray.empty, .slice none 0 0]], []⟩ 8 (by kernel_rfl) (by kernel_rfl) (by kernel_rfl) (by kernel_rfl)) ?_
  intro W base args ds gs before hval0 hW hcnd _
  have hval : ∀ (j : Nat) t v, Try.f6.params[j]? = some t → args[j]? = some v → Value.okWide Try.prog W .any base t v := hval0
  have hW' := hW
  obtain ⟨p, q, hA0, hV, rfl, hfz, hnd⟩ := hW
  have hA : DataW.TrodAll enc Try.prog W 0 (fun _ => true) true Try.f6.params.toList args.toList ds p := hA0
  rw [Try.params6] at hA hval
  obtain ⟨v0, vs0, d0, ds0, p0, q0, hargs, rfl, rfl, h0, r0⟩ := trodAll_cons hA
  obtain ⟨v1, vs1, d1, ds1, p1, q1, rfl, rfl, rfl, h1, r1⟩ := trodAll_cons r0
  obtain ⟨rfl, rfl, rfl⟩ := trodAll_nil r1
  obtain rfl : args = #[v0, v1] := by cases args; simp_all
  obtain ⟨rfl, rfl⟩ := trodVars_none hV
  obtain ⟨l0, w0, z0, y0⟩ := open_slots (hval 0 31 v0 rfl rfl) h0
  obtain ⟨x1, u1, rfl, w1, z1, n1, y1a, y1b⟩ := open_slot (hval 1 24 v1 rfl rfl) h1
  clear hA0 hval0
  refine (walk W  _ _ _ _ w0 z0 y0 w1 z1 n1 ⟨y1a, y1b⟩).mono fun e W' ⟨he, hg⟩ => ?_
  subst he
  exact ⟨_, rfl, post_true laidOut rowed hW' rfl resT Try.underlying4 hg (pv := []) rfl⟩

set_option maxRecDepth 100000 in
theorem over : Rows.fnExactSlotPutRow.holds Try.pinned (OpenSpec.ofChange Rows.fnExactSlotPutSpec) :=
  OpenClaim.holds_of_wide 6 Try.f6 rfl rfl rfl rfl rfl rfl rfl ⟨rfl, rfl, rfl, rfl, rfl⟩ rfl rfl rfl rfl rfl (by kernel_rfl) Try.func6 (by kernel_rfl)
    (of_decide_eq_true (by kernel_rfl)) (by unfold Func.isWrapper; first | (rw [if_pos (by decide +kernel)]; kernel_rfl) | (rw [if_neg (by decide +kernel)]; exact ⟨rfl, rfl⟩))
    (fun os started H enc _ => lifted os started H enc)

set_option maxRecDepth 100000 in
theorem proved : Rows.FnExactSlotPutSaid :=
  over
#print axioms proved
end Go.Proofs.Ytkbakcnhhlmpkaa.fnExactSlotPut
