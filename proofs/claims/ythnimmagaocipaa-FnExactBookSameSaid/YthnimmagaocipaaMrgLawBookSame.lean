/- FnExactBookSame: for every argument the law answers true: the program's function returns what the reference returns; the listed package variables hold what the program's text lays (tied). -/
import Derived.Test.YthnimmagaocipaaMrg1
import Derived.Test.YthnimmagaocipaaMrg2
import Derived.Test.YthnimmagaocipaaMrg4
import Derived.Deep.RegionHeld3
namespace Go.Proofs.Ythnimmagaocipaa.fnExactBookSame
open Go.ChangeShapes Go.WideShapes Go.ChangeAt Go.RowKit
open Go.WideMaps Go.WideElems
open Go.ChangeMaps (open_string shut_string)
set_option linter.unusedVariables false

set_option maxRecDepth 100000 in
theorem own : ownKnob Try.prog.godebug = none := by kernel_rfl

set_option maxRecDepth 100000 in
set_option maxHeartbeats 8000000 in
theorem walk (w : World)  (l0 : BookD) (vb0 : Value) (l1 : BookD) (vb1 : Value) (w0 : AcctsR.rd w.heap.size w [vb0] l0) (z0 : bookBig l0) (w1 : AcctsR.rd w.heap.size w [vb1] l1) (z1 : bookBig l1) :
    Calls Try.prog 4 #[.agg #[vb0], .agg #[vb1]] w fun e w' => e = .returned (.bool true) ∧ Below w.heap.size w w' := by
  obtain ⟨AB0, cB0, rfl, -⟩ := Rep.slice_form w0
  have HX0 := Lib.hid w0
  have HY0 := Lib.hid z0
  clear w0 z0
  obtain ⟨AB1, cB1, rfl, -⟩ := Rep.slice_form w1
  have HX1 := Lib.hid w1
  have HY1 := Lib.hid z1
  clear w1 z1
  have HB0 : Hid (Below w.heap.size w ((w.alloc (.cells #[.slice AB0 l0.length cB0] 24)).alloc (.cells #[.slice AB1 l1.length cB1] 24))) := Lib.hid (((Below.refl w.heap.size w).alloc (Nat.le_refl _) (.cells #[.slice AB0 l0.length cB0] 24)).alloc (by simp <;> omega) (.cells #[.slice AB1 l1.length cB1] 24))
  have HX : Hid (∀ wr, Below (w.heap.size + 2) ((w.alloc (.cells #[.slice AB0 l0.length cB0] 24)).alloc (.cells #[.slice AB1 l1.length cB1] 24)) wr → wr.cell? ⟨w.heap.size, 0, none⟩ = some (.slice AB0 l0.length cB0) ∧ wr.cell? ⟨w.heap.size + 1, 0, none⟩ = some (.slice AB1 l1.length cB1)) := Lib.hid fun wr hw => ⟨(hw.cell (p := ⟨w.heap.size, 0, none⟩) (show w.heap.size < _ by omega)).trans (by simp), (hw.cell (p := ⟨w.heap.size + 1, 0, none⟩) (show w.heap.size + 1 < _ by omega)).trans (by simp)⟩
  go_enter Try.func4, Try.ntmps4
  go_wp2_with fail
  refine (szBook_any w.heap.size _ l0 1048576 ((w.alloc (.cells #[.slice AB0 l0.length cB0] 24)).alloc (.cells #[.slice AB1 l1.length cB1] 24)) HY0.out (Rep.below (R := AcctsR) HX0.out HB0.out (Nat.le_refl _)) (by first | omega | (simp <;> omega)) (by omega) (by omega)).mono ?_
  rintro e w101 ⟨r0, rfl, hr0, hb1⟩
  have zz101 : w.heap.size + 2 ≤ w101.heap.size := by have := hb1.size; simp at this; omega
  have hB1 : Below (w.heap.size + 2) ((w.alloc (.cells #[.slice AB0 l0.length cB0] 24)).alloc (.cells #[.slice AB1 l1.length cB1] 24)) w101 := hb1.mono (by simp <;> omega)
  have hw1 : Below w.heap.size w w101 := HB0.out.trans (hb1.mono (by simp <;> omega))
  replace HX0 := Lib.hid (Rep.below (R := AcctsR) HX0.out hw1 (Nat.le_refl _))
  replace HX1 := Lib.hid (Rep.below (R := AcctsR) HX1.out hw1 (Nat.le_refl _))
  obtain ⟨x_0, x_1⟩ := HX.out w101 hB1
  rcases hr0 with rfl | ⟨hr0, hp0⟩
  · go_wp2
    go_ret
    exact ⟨rfl, (HB0.out.trans (hB1.mono (by first | omega | (simp <;> omega))))⟩
  have hxz0 : bookSz l0 ≤ 1048576 := by omega
  have HS0 := Lib.hid (book_small hxz0)
  have hq0 : r0 ≤ 1048576 := by omega
  have HR0 := Lib.hid hr0
  have HXZ0 := Lib.hid hxz0
  clear hr0 hxz0
  go_wp2_with fail
  refine (szBook_any w.heap.size _ l1 r0 w101 HY1.out HX1.out (by first | omega | (simp <;> omega)) (by omega) (by omega)).mono ?_
  rintro e w102 ⟨r1, rfl, hr1, hb2⟩
  have zz102 : w101.heap.size ≤ w102.heap.size := hb2.size
  have hB2 := hB1.trans (hb2.mono (show w.heap.size + 2 ≤ _ by omega))
  replace HX0 := Lib.hid (Rep.below (R := AcctsR) HX0.out hb2 (by omega))
  replace HX1 := Lib.hid (Rep.below (R := AcctsR) HX1.out hb2 (by omega))
  clear x_0 x_1
  obtain ⟨x_0, x_1⟩ := HX.out w102 hB2
  rcases hr1 with rfl | ⟨hr1, hp1⟩
  · go_wp2
    go_ret
    exact ⟨rfl, (HB0.out.trans (hB2.mono (by first | omega | (simp <;> omega))))⟩
  have hxz1 : bookSz l1 ≤ 1048576 := by omega
  have HS1 := Lib.hid (book_small hxz1)
  have hq1 : r1 ≤ 1048576 := by omega
  have HR1 := Lib.hid hr1
  have HXZ1 := Lib.hid hxz1
  clear hr1 hxz1
  go_wp2
  have hD : Below w102.heap.size w102 w102.drew := (Below.refl _ _).drew
  have zD : w102.drew.heap.size = w102.heap.size := rfl
  have yD0 : w.heap.size < w102.heap.size := by omega
  have yD1 : w.heap.size + 1 < w102.heap.size := by omega
  have HT0 := Lib.hid (fun W' (hW : Below w102.heap.size w102 W') => toBook_any w.heap.size _ l0 W' HS0.out (Rep.below (R := AcctsR) HX0.out hW (by omega)) (Nat.le_trans (by omega) hW.size))
  have HT1 := Lib.hid (fun W' (hW : Below w102.heap.size w102 W') => toBook_any w.heap.size _ l1 W' HS1.out (Rep.below (R := AcctsR) HX1.out hW (by omega)) (Nat.le_trans (by omega) hW.size))
  go_region_held3 (fun V => V.cell? ⟨w.heap.size, 0, none⟩ = some (.slice AB0 l0.length cB0) ∧ V.cell? ⟨w.heap.size + 1, 0, none⟩ = some (.slice AB1 l1.length cB1)) (go_keep) (first | (go_at_call 7; (with_reducible refine (HT0.out _ hD).mono ?_); rintro e w103 ⟨uA, rfl, huA, hbA⟩; obtain ⟨AA, cA, rfl, -⟩ := Rep.slice_form (AcctsIv.rd huA); have zA := hbA.size; have qa0 := (hbA.cell (p := ⟨w.heap.size, 0, none⟩) (show w.heap.size < _ by omega)).trans x_0; have qa1 := (hbA.cell (p := ⟨w.heap.size + 1, 0, none⟩) (show w.heap.size + 1 < _ by omega)).trans x_1) | (go_at_call 7; (with_reducible refine (HT1.out _ (hD.trans (hbA.mono (show w102.heap.size ≤ _ by omega)))).mono ?_); rintro e w104 ⟨uB, rfl, huB, hbB⟩; obtain ⟨AB, cB, rfl, -⟩ := Rep.slice_form (AcctsIv.rd huB); have zB := hbB.size; have qb0 := (hbB.cell (p := ⟨w.heap.size, 0, none⟩) (show w.heap.size < _ by omega)).trans qa0; have qb1 := (hbB.cell (p := ⟨w.heap.size + 1, 0, none⟩) (show w.heap.size + 1 < _ by omega)).trans qa1) | (go_at_call 10; refine (specBookSame_any w104.heap.size _ _ l0 l1 w104 HS0.out (AcctsR.rd_mono (Rep.below (R := AcctsR) (AcctsIv.rd huA) hbB (Nat.le_refl _)) (by omega)) (AcctsIv.rd huB) (Nat.le_refl _)).mono ?_; rintro e w105 ⟨rfl, hbC⟩; have zC := hbC.size; have qc0 := (hbC.cell (p := ⟨w.heap.size, 0, none⟩) (show w.heap.size < _ by omega)).trans qb0; have qc1 := (hbC.cell (p := ⟨w.heap.size + 1, 0, none⟩) (show w.heap.size + 1 < _ by omega)).trans qb1) | fail)
  have hb5 : Below w102.heap.size w102 w105 := ((hD.trans (hbA.mono (show w102.heap.size ≤ _ by omega))).trans (hbB.mono (show w102.heap.size ≤ _ by omega))).trans (hbC.mono (show w102.heap.size ≤ _ by omega))
  have hB5 := hB2.trans (hb5.mono (show w.heap.size + 2 ≤ _ by omega))
  have zz105 : w102.heap.size ≤ w105.heap.size := hb5.size
  clear hbA hbB hbC huA huB qa0 qb0 qc0 qa1 qb1 qc1 hD zD zA zB zC HT0 HT1
  replace HX0 := Lib.hid (Rep.below (R := AcctsR) HX0.out hb5 (by omega))
  replace HX1 := Lib.hid (Rep.below (R := AcctsR) HX1.out hb5 (by omega))
  clear x_0 x_1
  obtain ⟨x_0, x_1⟩ := HX.out w105 hB5
  go_wp2_with fail
  refine (toBook_any w.heap.size _ l0 w105 HS0.out HX0.out (by omega)).mono ?_
  rintro e w106 ⟨u_6, rfl, hu6, hb6⟩
  obtain ⟨A_6, c_6, rfl, -⟩ := Rep.slice_form (AcctsIv.rd hu6)
  have zz106 : w105.heap.size ≤ w106.heap.size := hb6.size
  have hB6 := hB5.trans (hb6.mono (show w.heap.size + 2 ≤ _ by omega))
  replace HX0 := Lib.hid (Rep.below (R := AcctsR) HX0.out hb6 (by omega))
  replace HX1 := Lib.hid (Rep.below (R := AcctsR) HX1.out hb6 (by omega))
  clear x_0 x_1
  obtain ⟨x_0, x_1⟩ := HX.out w106 hB6
  have H4 := Lib.hid hu6
  have yy6_0 : w.heap.size < w106.heap.size := by omega
  have yy6_1 : w.heap.size + 1 < w106.heap.size := by omega
  go_wp2_with fail
  have hb7 := (Below.refl w106.heap.size w106).alloc (Nat.le_refl _) (.cells #[.slice A_6 l0.length c_6] 29)
  have hX4 := heap_alloc_new w106 (.cells #[.slice A_6 l0.length c_6] 29)
  generalize w106.alloc (.cells #[.slice A_6 l0.length c_6] 29) = w107 at hb7 hX4 ⊢
  have zz107 : w106.heap.size ≤ w107.heap.size := hb7.size
  have zl7 : w106.heap.size < w107.heap.size := lt_of_block hX4
  have hB7 := hB6.trans (hb7.mono (show w.heap.size + 2 ≤ _ by omega))
  replace HX0 := Lib.hid (Rep.below (R := AcctsR) HX0.out hb7 (by omega))
  replace HX1 := Lib.hid (Rep.below (R := AcctsR) HX1.out hb7 (by omega))
  replace H4 := Lib.hid (AcctsIv.below H4.out hb7 (by omega))
  have X4 := Lib.hid hX4
  clear hX4
  clear x_0 x_1
  obtain ⟨x_0, x_1⟩ := HX.out w107 hB7
  have X4c0 := cell_of_row _ _ 0 _ _ (0, 0) X4.out
  have X4c1 := cell_of_row _ _ 1 _ _ (0, 0) X4.out
  have X4c2 := cell_of_row _ _ 2 _ _ (0, 0) X4.out
  have X4c3 := cell_of_row _ _ 3 _ _ (0, 0) X4.out
  have X4c4 := cell_of_row _ _ 4 _ _ (0, 0) X4.out
  have X4c5 := cell_of_row _ _ 5 _ _ (0, 0) X4.out
  have X4c6 := cell_of_row _ _ 6 _ _ (0, 0) X4.out
  have X4c7 := cell_of_row _ _ 7 _ _ (0, 0) X4.out
  have X4c8 := cell_of_row _ _ 8 _ _ (0, 0) X4.out
  have X4c9 := cell_of_row _ _ 9 _ _ (0, 0) X4.out
  have X4c10 := cell_of_row _ _ 10 _ _ (0, 0) X4.out
  simp only [List.getElem?_toArray, List.getElem?_cons_zero, List.getElem?_cons_succ] at X4c0 X4c1 X4c2 X4c3 X4c4 X4c5 X4c6 X4c7 X4c8 X4c9 X4c10
  go_wp2_with fail
  refine (toBook_any w.heap.size _ l1 w107 HS1.out HX1.out (by omega)).mono ?_
  rintro e w108 ⟨u_8, rfl, hu8, hb8⟩
  obtain ⟨A_8, c_8, rfl, -⟩ := Rep.slice_form (AcctsIv.rd hu8)
  have zz108 : w107.heap.size ≤ w108.heap.size := hb8.size
  have hB8 := hB7.trans (hb8.mono (show w.heap.size + 2 ≤ _ by omega))
  replace HX0 := Lib.hid (Rep.below (R := AcctsR) HX0.out hb8 (by omega))
  replace HX1 := Lib.hid (Rep.below (R := AcctsR) HX1.out hb8 (by omega))
  replace H4 := Lib.hid (AcctsIv.below H4.out hb8 (by omega))
  replace X4 := Lib.hid ((hb8.block _ (by omega)).trans X4.out)
  clear x_0 x_1
  obtain ⟨x_0, x_1⟩ := HX.out w108 hB8
  have H5 := Lib.hid hu8
  clear X4c0
  have X4c0 := cell_of_row _ _ 0 _ _ (0, 0) X4.out
  simp only [List.getElem?_toArray, List.getElem?_cons_zero] at X4c0
  have yy8_0 : w.heap.size < w108.heap.size := by omega
  have yy8_1 : w.heap.size + 1 < w108.heap.size := by omega
  have yy8X4 : w106.heap.size < w108.heap.size := by omega
  go_wp2_with fail
  have hb9 := (Below.refl w108.heap.size w108).alloc (Nat.le_refl _) (.cells #[.slice A_8 l1.length c_8] 29)
  have hX5 := heap_alloc_new w108 (.cells #[.slice A_8 l1.length c_8] 29)
  generalize w108.alloc (.cells #[.slice A_8 l1.length c_8] 29) = w109 at hb9 hX5 ⊢
  have zz109 : w108.heap.size ≤ w109.heap.size := hb9.size
  have zl9 : w108.heap.size < w109.heap.size := lt_of_block hX5
  have hB9 := hB8.trans (hb9.mono (show w.heap.size + 2 ≤ _ by omega))
  replace HX0 := Lib.hid (Rep.below (R := AcctsR) HX0.out hb9 (by omega))
  replace HX1 := Lib.hid (Rep.below (R := AcctsR) HX1.out hb9 (by omega))
  replace H4 := Lib.hid (AcctsIv.below H4.out hb9 (by omega))
  replace X4 := Lib.hid ((hb9.block _ (by omega)).trans X4.out)
  replace H5 := Lib.hid (AcctsIv.below H5.out hb9 (by omega))
  have X5 := Lib.hid hX5
  clear hX5
  clear x_0 x_1
  obtain ⟨x_0, x_1⟩ := HX.out w109 hB9
  have X5c0 := cell_of_row _ _ 0 _ _ (0, 0) X5.out
  have X5c1 := cell_of_row _ _ 1 _ _ (0, 0) X5.out
  have X5c2 := cell_of_row _ _ 2 _ _ (0, 0) X5.out
  have X5c3 := cell_of_row _ _ 3 _ _ (0, 0) X5.out
  have X5c4 := cell_of_row _ _ 4 _ _ (0, 0) X5.out
  have X5c5 := cell_of_row _ _ 5 _ _ (0, 0) X5.out
  have X5c6 := cell_of_row _ _ 6 _ _ (0, 0) X5.out
  have X5c7 := cell_of_row _ _ 7 _ _ (0, 0) X5.out
  have X5c8 := cell_of_row _ _ 8 _ _ (0, 0) X5.out
  have X5c9 := cell_of_row _ _ 9 _ _ (0, 0) X5.out
  have X5c10 := cell_of_row _ _ 10 _ _ (0, 0) X5.out
  simp only [List.getElem?_toArray, List.getElem?_cons_zero, List.getElem?_cons_succ] at X5c0 X5c1 X5c2 X5c3 X5c4 X5c5 X5c6 X5c7 X5c8 X5c9 X5c10
  go_wp2_with fail
  refine (implBookSame_any _ _ _ l0 l1 w109 HS0.out (AcctsR.rd_mono (AcctsIv.rd H4.out) (by omega)) (AcctsIv.rd H5.out) (by omega)).mono ?_
  rintro e w110 ⟨rfl, hb10⟩
  have zz110 : w109.heap.size ≤ w110.heap.size := hb10.size
  have hB10 := hB9.trans (hb10.mono (show w.heap.size + 2 ≤ _ by omega))
  replace HX0 := Lib.hid (Rep.below (R := AcctsR) HX0.out hb10 (by omega))
  replace HX1 := Lib.hid (Rep.below (R := AcctsR) HX1.out hb10 (by omega))
  replace H4 := Lib.hid (AcctsIv.below H4.out hb10 (by omega))
  replace X4 := Lib.hid ((hb10.block _ (by omega)).trans X4.out)
  replace H5 := Lib.hid (AcctsIv.below H5.out hb10 (by omega))
  replace X5 := Lib.hid ((hb10.block _ (by omega)).trans X5.out)
  clear x_0 x_1
  obtain ⟨x_0, x_1⟩ := HX.out w110 hB10
  clear X4c0
  clear X5c0
  have X4c0 := cell_of_row _ _ 0 _ _ (0, 0) X4.out
  simp only [List.getElem?_toArray, List.getElem?_cons_zero] at X4c0
  have X5c0 := cell_of_row _ _ 0 _ _ (0, 0) X5.out
  simp only [List.getElem?_toArray, List.getElem?_cons_zero] at X5c0
  generalize bookSame l0 l1 = res
  go_wp2
  have hD : Below w110.heap.size w110 w110.drew := (Below.refl _ _).drew
  have zD : w110.drew.heap.size = w110.heap.size := rfl
  go_region_held3 (fun V => V.cell? ⟨w106.heap.size, 0, none⟩ = some (.slice A_6 l0.length c_6) ∧ V.cell? ⟨w.heap.size, 0, none⟩ = some (.slice AB0 l0.length cB0)) (go_keep) (first | (go_at_call 7; refine (toBook_any w.heap.size _ l0 w110.drew HS0.out (Rep.below (R := AcctsR) HX0.out hD (by omega)) (show w.heap.size ≤ w110.heap.size by omega)).mono ?_; rintro e w111 ⟨uq, rfl, huq, hbq⟩; obtain ⟨Aq, cq, rfl, -⟩ := Rep.slice_form (AcctsIv.rd huq); have zq := hbq.size; have qa0 := (hbq.cell (p := ⟨w106.heap.size, 0, none⟩) (show w106.heap.size < _ by omega)).trans X4c0; have qa1 := (hbq.cell (p := ⟨w.heap.size, 0, none⟩) (show w.heap.size < _ by omega)).trans x_0) | (go_at_call 9; refine (eqBook_any _ _ _ _ l0 w111 HS0.out (AcctsIv.rd (AcctsIv.below (AcctsIv.below H4.out hD (by omega)) hbq (by omega))) (AcctsIv.rd huq) (by omega) (by omega)).mono ?_; rintro e w112 ⟨rfl, hbr⟩; have qb0 := (hbr.cell (p := ⟨w106.heap.size, 0, none⟩) (show w106.heap.size < _ by omega)).trans qa0; have qb1 := (hbr.cell (p := ⟨w.heap.size, 0, none⟩) (show w.heap.size < _ by omega)).trans qa1) | fail)
  have hb12 : Below w110.heap.size w110 w112 := (hD.trans (hbq.mono (show w110.heap.size ≤ _ by omega))).trans (hbr.mono (show w110.heap.size ≤ _ by omega))
  have hB12 := hB10.trans (hb12.mono (show w.heap.size + 2 ≤ _ by omega))
  have zz112 : w110.heap.size ≤ w112.heap.size := hb12.size
  clear hbq hbr huq qa0 qb0 qa1 qb1 hD zD
  replace HX0 := Lib.hid (Rep.below (R := AcctsR) HX0.out hb12 (by omega))
  replace HX1 := Lib.hid (Rep.below (R := AcctsR) HX1.out hb12 (by omega))
  replace H4 := Lib.hid (AcctsIv.below H4.out hb12 (by omega))
  replace X4 := Lib.hid ((hb12.block _ (by omega)).trans X4.out)
  replace H5 := Lib.hid (AcctsIv.below H5.out hb12 (by omega))
  replace X5 := Lib.hid ((hb12.block _ (by omega)).trans X5.out)
  clear x_0 x_1
  obtain ⟨x_0, x_1⟩ := HX.out w112 hB12
  clear X4c0
  clear X5c0
  have X4c0 := cell_of_row _ _ 0 _ _ (0, 0) X4.out
  simp only [List.getElem?_toArray, List.getElem?_cons_zero] at X4c0
  have X5c0 := cell_of_row _ _ 0 _ _ (0, 0) X5.out
  simp only [List.getElem?_toArray, List.getElem?_cons_zero] at X5c0
  go_wp2
  have hD : Below w112.heap.size w112 w112.drew := (Below.refl _ _).drew
  have zD : w112.drew.heap.size = w112.heap.size := rfl
  go_region_held3 (fun V => V.cell? ⟨w108.heap.size, 0, none⟩ = some (.slice A_8 l1.length c_8) ∧ V.cell? ⟨w.heap.size + 1, 0, none⟩ = some (.slice AB1 l1.length cB1)) (go_keep) (first | (go_at_call 7; refine (toBook_any w.heap.size _ l1 w112.drew HS1.out (Rep.below (R := AcctsR) HX1.out hD (by omega)) (show w.heap.size ≤ w112.heap.size by omega)).mono ?_; rintro e w113 ⟨uq, rfl, huq, hbq⟩; obtain ⟨Aq, cq, rfl, -⟩ := Rep.slice_form (AcctsIv.rd huq); have zq := hbq.size; have qa0 := (hbq.cell (p := ⟨w108.heap.size, 0, none⟩) (show w108.heap.size < _ by omega)).trans X5c0; have qa1 := (hbq.cell (p := ⟨w.heap.size + 1, 0, none⟩) (show w.heap.size + 1 < _ by omega)).trans x_1) | (go_at_call 9; refine (eqBook_any _ _ _ _ l1 w113 HS1.out (AcctsIv.rd (AcctsIv.below (AcctsIv.below H5.out hD (by omega)) hbq (by omega))) (AcctsIv.rd huq) (by omega) (by omega)).mono ?_; rintro e w114 ⟨rfl, hbr⟩; have qb0 := (hbr.cell (p := ⟨w108.heap.size, 0, none⟩) (show w108.heap.size < _ by omega)).trans qa0; have qb1 := (hbr.cell (p := ⟨w.heap.size + 1, 0, none⟩) (show w.heap.size + 1 < _ by omega)).trans qa1) | fail)
  have hb14 : Below w112.heap.size w112 w114 := (hD.trans (hbq.mono (show w112.heap.size ≤ _ by omega))).trans (hbr.mono (show w112.heap.size ≤ _ by omega))
  have hB14 := hB12.trans (hb14.mono (show w.heap.size + 2 ≤ _ by omega))
  have zz114 : w112.heap.size ≤ w114.heap.size := hb14.size
  clear hbq hbr huq qa0 qb0 qa1 qb1 hD zD
  replace HX0 := Lib.hid (Rep.below (R := AcctsR) HX0.out hb14 (by omega))
  replace HX1 := Lib.hid (Rep.below (R := AcctsR) HX1.out hb14 (by omega))
  replace H4 := Lib.hid (AcctsIv.below H4.out hb14 (by omega))
  replace X4 := Lib.hid ((hb14.block _ (by omega)).trans X4.out)
  replace H5 := Lib.hid (AcctsIv.below H5.out hb14 (by omega))
  replace X5 := Lib.hid ((hb14.block _ (by omega)).trans X5.out)
  clear x_0 x_1
  obtain ⟨x_0, x_1⟩ := HX.out w114 hB14
  clear X4c0
  clear X5c0
  have X4c0 := cell_of_row _ _ 0 _ _ (0, 0) X4.out
  simp only [List.getElem?_toArray, List.getElem?_cons_zero] at X4c0
  have X5c0 := cell_of_row _ _ 0 _ _ (0, 0) X5.out
  simp only [List.getElem?_toArray, List.getElem?_cons_zero] at X5c0
  go_wp2
  go_ret
  exact ⟨rfl, (HB0.out.trans (hB14.mono (by first | omega | (simp <;> omega))))⟩


set_option maxRecDepth 100000 in
theorem laidOut : laidOutB Try.prog = true := by kernel_rfl
set_option maxRecDepth 100000 in
theorem rowed : allRowed Try.prog Try.f4.params.toList = true := by kernel_rfl
set_option maxRecDepth 100000 in
theorem resT : Try.f4.resultTypes = #[4] := by kernel_rfl
set_option maxRecDepth 100000 in
theorem lifted (os : Os) (started : os.Started) (H : Type) (enc : TypeId × Value → H) :
    ReturnsInHanded {} Try.checked os 4 .any (Rows.fnExactBookSameSpec.pre6 enc Try.prog Try.f4 Rows.fnExactBookSameRow.domain false) (Rows.fnExactBookSameSpec.post enc Try.prog Try.f4 false true false false) := by
  refine returnsInHanded_of_change (C := Try.checked) own started (by kernel_rfl) Try.func4
    (ChangeSpec.witness6 (enc := enc) (C := Try.checked) false ⟨#[], #[.agg #[.slice none 0 0], .agg #[.slice none 0 0]], []⟩ 8 (by kernel_rfl) (by kernel_rfl) (by kernel_rfl) (by kernel_rfl)) ?_
  intro W base args ds gs before hval0 hW hcnd _
  have hval : ∀ (j : Nat) t v, Try.f4.params[j]? = some t → args[j]? = some v → Value.okWide Try.prog W .any base t v := hval0
  have hW' := hW
  obtain ⟨p, q, hA0, hV, rfl, hfz, hnd⟩ := hW
  have hA : DataW.TrodAll enc Try.prog W 0 (fun _ => true) true Try.f4.params.toList args.toList ds p := hA0
  rw [Try.params4] at hA hval
  obtain ⟨v0, vs0, d0, ds0, p0, q0, hargs, rfl, rfl, h0, r0⟩ := trodAll_cons hA
  obtain ⟨v1, vs1, d1, ds1, p1, q1, rfl, rfl, rfl, h1, r1⟩ := trodAll_cons r0
  obtain ⟨rfl, rfl, rfl⟩ := trodAll_nil r1
  obtain rfl : args = #[v0, v1] := by cases args; simp_all
  obtain ⟨rfl, rfl⟩ := trodVars_none hV
  obtain ⟨l0, vb0, rfl, w0, z0⟩ := open_book (hval 0 24 v0 rfl rfl) h0
  obtain ⟨l1, vb1, rfl, w1, z1⟩ := open_book (hval 1 24 v1 rfl rfl) h1
  clear hA0 hval0
  refine (walk W  _ _ _ _ w0 z0 w1 z1).mono fun e W' ⟨he, hg⟩ => ?_
  subst he
  exact ⟨_, rfl, post_true laidOut rowed hW' rfl resT Try.underlying4 hg (pv := []) rfl⟩

set_option maxRecDepth 100000 in
theorem over : Rows.fnExactBookSameRow.holds Try.pinned (OpenSpec.ofChange Rows.fnExactBookSameSpec) :=
  OpenClaim.holds_of_wide 4 Try.f4 rfl rfl rfl rfl rfl rfl rfl ⟨rfl, rfl, rfl, rfl, rfl⟩ rfl rfl rfl rfl rfl (by kernel_rfl) Try.func4 (by kernel_rfl)
    (of_decide_eq_true (by kernel_rfl)) (by unfold Func.isWrapper; first | (rw [if_pos (by decide +kernel)]; kernel_rfl) | (rw [if_neg (by decide +kernel)]; exact ⟨rfl, rfl⟩))
    (fun os started H enc _ => lifted os started H enc)

set_option maxRecDepth 100000 in
theorem proved : Rows.FnExactBookSameSaid :=
  over
#print axioms proved
end Go.Proofs.Ythnimmagaocipaa.fnExactBookSame
