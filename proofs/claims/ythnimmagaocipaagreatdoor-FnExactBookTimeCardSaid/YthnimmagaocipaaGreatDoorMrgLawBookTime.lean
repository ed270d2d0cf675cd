/- FnExactBookTime: for every argument the law answers true: the program's function returns what the reference returns; the listed package variables hold what the program's text lays (tied). -/
import Derived.Test.YthnimmagaocipaaGreatDoorMrg1
import Derived.Test.YthnimmagaocipaaGreatDoorMrg2
import Derived.Test.YthnimmagaocipaaGreatDoorCards
import Derived.Test.YthnimmagaocipaaGreatDoorTie
import Derived.Stop.LaidErr
import Derived.LaidMore
import Derived.Stop.Joined
import Derived.SevenTiedAt
import Derived.WalkSmall
import Derived.LaidHandle
import Derived.Test.YthnimmagaocipaaGreatDoorMrg6
import Derived.Test.YthnimmagaocipaaGreatDoorMrg8
import Derived.Test.YthnimmagaocipaaGreatDoorMrg7
import Derived.Test.YthnimmagaocipaaGreatDoorMrg3
import Derived.Test.YthnimmagaocipaaGreatDoorMrg5
import Derived.Deep.RegionHeld3
namespace Go.Proofs.YthnimmagaocipaaGreatDoor.fnExactBookTime
open Go.ChangeShapes Go.WideShapes Go.ChangeAt Go.RowKit
open Go.WideMaps Go.WideElems
open Go.ChangeMaps (open_string shut_string)
set_option linter.unusedVariables false

set_option maxRecDepth 100000 in
theorem own : ownKnob Tryz.prog.godebug = none := by kernel_rfl

set_option maxRecDepth 100000 in
set_option maxHeartbeats 8000000 in
theorem walk (w : World) (p0 : Addr) (hc0 : w.cell? ⟨0, 0, none⟩ = some (.iface 178 (.pointer (some p0)))) (hh : w.cell? ⟨1, 0, none⟩ = some (.iface 165 (.agg #[.pointer (some ⟨2, 142, none⟩)]))) (l0 : BookD) (vb0 : Value) (a1 : Int) (w0 : AcctsR.rd w.heap.size w [vb0] l0) (z0 : bookBig l0) (w1 : (Lit.int .i64 a1).wf = true) :
    Calls Tryz.prog 4 #[.agg #[vb0], .int .i64 a1] w fun e w' => e = .returned (.bool true) ∧ Below w.heap.size w w' := by
  obtain ⟨AB0, cB0, rfl, -⟩ := Rep.slice_form w0
  have HX0 := Lib.hid w0
  have HY0 := Lib.hid z0
  clear w0 z0
  have HB0 : Hid (Below w.heap.size w (w.alloc (.cells #[.slice AB0 l0.length cB0] 24))) := Lib.hid ((Below.refl w.heap.size w).alloc (Nat.le_refl _) (.cells #[.slice AB0 l0.length cB0] 24))
  have HX : Hid (∀ wr, Below (w.heap.size + 1) (w.alloc (.cells #[.slice AB0 l0.length cB0] 24)) wr → wr.cell? ⟨w.heap.size, 0, none⟩ = some (.slice AB0 l0.length cB0)) := Lib.hid fun wr hw => (hw.cell (p := ⟨w.heap.size, 0, none⟩) (show w.heap.size < _ by omega)).trans (by simp)
  have HHD : Hid (Handle w) := Lib.hid hh
  clear hh
  clear w1
  go_enter Tryz.func4, Tryz.ntmps4
  go_wp2_with fail
  refine (szBook_any w.heap.size _ l0 1048576 (w.alloc (.cells #[.slice AB0 l0.length cB0] 24)) HY0.out (Rep.below (R := AcctsR) HX0.out HB0.out (Nat.le_refl _)) (by first | omega | (simp <;> omega)) (by omega) (by omega)).mono ?_
  rintro e w101 ⟨r0, rfl, hr0, hb1⟩
  have zz101 : w.heap.size + 1 ≤ w101.heap.size := by have := hb1.size; simp at this; omega
  have hB1 : Below (w.heap.size + 1) (w.alloc (.cells #[.slice AB0 l0.length cB0] 24)) w101 := hb1.mono (by simp <;> omega)
  have hw1 : Below w.heap.size w w101 := HB0.out.trans (hb1.mono (by simp <;> omega))
  replace HX0 := Lib.hid (Rep.below (R := AcctsR) HX0.out hw1 (Nat.le_refl _))
  have x_0 := HX.out w101 hB1
  rcases hr0 with rfl | ⟨hr0, hp0⟩
  · go_wp2
    go_ret
    exact ⟨rfl, (HB0.out.trans (hB1.mono (by first | omega | (simp <;> omega))))⟩
  have hxz0 : bookSz l0 ≤ 1048576 := by omega
  have HS0 := Lib.hid (book_small hxz0)
  have hq0 : r0 ≤ 1048576 := by omega
  have HR0 := Lib.hid hr0
  have HXZ0 := Lib.hid hxz0
  clear hr0 hxz0
  obtain ⟨lr, hlr⟩ : ∃ lr, lr = l0.map fun x => acctAt x a1 := ⟨_, rfl⟩
  have HSR : Hid (bookSz lr ≤ 1048576) := Lib.hid (by rw [hlr]; exact Nat.le_trans (bookSz_at l0 a1) HXZ0.out)
  have HLR := Lib.hid hlr
  clear hlr
  have HS9 := Lib.hid (book_small HSR.out)
  have HK9 : Hid (kBk lr 1 ≤ 100000000) := Lib.hid (kBk_fit HSR.out)
  have HK0 : Hid (kBk l0 1 ≤ 100000000) := Lib.hid (kBk_fit HXZ0.out)
  go_wp2_with fail
  refine (toBook_any w.heap.size _ l0 w101 HS0.out HX0.out (by omega)).mono ?_
  rintro e w102 ⟨u_2, rfl, hu2, hb2⟩
  obtain ⟨A_2, c_2, rfl, -⟩ := Rep.slice_form (AcctsIv.rd hu2)
  have zz102 : w101.heap.size ≤ w102.heap.size := hb2.size
  have hB2 := hB1.trans (hb2.mono (show w.heap.size + 1 ≤ _ by omega))
  replace HX0 := Lib.hid (Rep.below (R := AcctsR) HX0.out hb2 (by omega))
  clear x_0
  have x_0 := HX.out w102 hB2
  have H2 := Lib.hid hu2
  go_wp2_with fail
  refine (specBookTime_any _ _ l0 a1 w102 HS0.out HY0.out.2 (AcctsIv.rd H2.out) (by omega)).mono ?_
  rintro e w103 ⟨u_3, rfl, hu3, hb3⟩
  replace hu3 := (Ivl.any AcctR).slice.mine hu3
  rw [← HLR.out] at hu3
  obtain ⟨A_3, c_3, rfl, -⟩ := Rep.slice_form (Rep.mine.rd hu3)
  have zz103 : w102.heap.size ≤ w103.heap.size := hb3.size
  have hB3 := hB2.trans (hb3.mono (show w.heap.size + 1 ≤ _ by omega))
  replace HX0 := Lib.hid (Rep.below (R := AcctsR) HX0.out hb3 (by omega))
  replace H2 := Lib.hid (AcctsIv.below H2.out hb3 (by omega))
  clear x_0
  have x_0 := HX.out w103 hB3
  have HW := Lib.hid hu3
  clear H2
  have yy3_0 : w.heap.size < w103.heap.size := by omega
  go_wp2_with fail
  have hb4 := (Below.refl w103.heap.size w103).alloc (Nat.le_refl _) (.cells #[.slice A_3 lr.length c_3] 29)
  have hXW := heap_alloc_new w103 (.cells #[.slice A_3 lr.length c_3] 29)
  generalize w103.alloc (.cells #[.slice A_3 lr.length c_3] 29) = w104 at hb4 hXW ⊢
  have zz104 : w103.heap.size ≤ w104.heap.size := hb4.size
  have zl4 : w103.heap.size < w104.heap.size := lt_of_block hXW
  have hB4 := hB3.trans (hb4.mono (show w.heap.size + 1 ≤ _ by omega))
  replace HX0 := Lib.hid (Rep.below (R := AcctsR) HX0.out hb4 (by omega))
  replace HW := Lib.hid (HW.out.below hb4 (by omega))
  have XW := Lib.hid hXW
  clear hXW
  clear x_0
  have x_0 := HX.out w104 hB4
  have XWc0 := cell_of_row _ _ 0 _ _ (0, 0) XW.out
  have XWc1 := cell_of_row _ _ 1 _ _ (0, 0) XW.out
  have XWc2 := cell_of_row _ _ 2 _ _ (0, 0) XW.out
  have XWc3 := cell_of_row _ _ 3 _ _ (0, 0) XW.out
  have XWc4 := cell_of_row _ _ 4 _ _ (0, 0) XW.out
  have XWc5 := cell_of_row _ _ 5 _ _ (0, 0) XW.out
  have XWc6 := cell_of_row _ _ 6 _ _ (0, 0) XW.out
  have XWc7 := cell_of_row _ _ 7 _ _ (0, 0) XW.out
  have XWc8 := cell_of_row _ _ 8 _ _ (0, 0) XW.out
  have XWc9 := cell_of_row _ _ 9 _ _ (0, 0) XW.out
  have XWc10 := cell_of_row _ _ 10 _ _ (0, 0) XW.out
  simp only [List.getElem?_toArray, List.getElem?_cons_zero, List.getElem?_cons_succ] at XWc0 XWc1 XWc2 XWc3 XWc4 XWc5 XWc6 XWc7 XWc8 XWc9 XWc10
  go_wp2_with fail
  refine (toBook_any w.heap.size _ l0 w104 HS0.out HX0.out (by omega)).mono ?_
  rintro e w105 ⟨u_5, rfl, hu5, hb5⟩
  obtain ⟨A_5, c_5, rfl, -⟩ := Rep.slice_form (AcctsIv.rd hu5)
  have zz105 : w104.heap.size ≤ w105.heap.size := hb5.size
  have hB5 := hB4.trans (hb5.mono (show w.heap.size + 1 ≤ _ by omega))
  replace HX0 := Lib.hid (Rep.below (R := AcctsR) HX0.out hb5 (by omega))
  replace HW := Lib.hid (HW.out.below hb5 (by omega))
  replace XW := Lib.hid ((hb5.block _ (by omega)).trans XW.out)
  clear x_0
  have x_0 := HX.out w105 hB5
  have H4 := Lib.hid hu5
  clear XWc0
  have XWc0 := cell_of_row _ _ 0 _ _ (0, 0) XW.out
  simp only [List.getElem?_toArray, List.getElem?_cons_zero] at XWc0
  have yy5_0 : w.heap.size < w105.heap.size := by omega
  have yy5XW : w103.heap.size < w105.heap.size := by omega
  go_wp2_with fail
  have hb6 := (Below.refl w105.heap.size w105).alloc (Nat.le_refl _) (.cells #[.slice A_5 l0.length c_5] 29)
  have hX4 := heap_alloc_new w105 (.cells #[.slice A_5 l0.length c_5] 29)
  generalize w105.alloc (.cells #[.slice A_5 l0.length c_5] 29) = w106 at hb6 hX4 ⊢
  have zz106 : w105.heap.size ≤ w106.heap.size := hb6.size
  have zl6 : w105.heap.size < w106.heap.size := lt_of_block hX4
  have hB6 := hB5.trans (hb6.mono (show w.heap.size + 1 ≤ _ by omega))
  replace HX0 := Lib.hid (Rep.below (R := AcctsR) HX0.out hb6 (by omega))
  replace HW := Lib.hid (HW.out.below hb6 (by omega))
  replace XW := Lib.hid ((hb6.block _ (by omega)).trans XW.out)
  replace H4 := Lib.hid (AcctsIv.below H4.out hb6 (by omega))
  have X4 := Lib.hid hX4
  clear hX4
  clear x_0
  have x_0 := HX.out w106 hB6
  have X4c0 := cell_of_row _ _ 0 _ _ (0, 0) X4.out
  have X4c1 := cell_of_row _ _ 1 _ _ (0, 0) X4.out
  have X4c2 := cell_of_row _ _ 2 _ _ (0, 0) X4.out
  have X4c3 := cell_of_row _ _ 3 _ _ (0, 0) X4.out
  have X4c4 := cell_of_row _ _ 4 _ _ (0, 0) X4.out
  have X4c5 := cell_of_row _ _ 5 _ _ (0, 0) X4.out
  have X4c6 := cell_of_row _ _ 6 _ _ (0, 0) X4.out
  have X4c7 := cell_of_row _ _ 7 _ _ (0, 0) X4.out
  have X4c8 := cell_of_row _ _ 8 _ _ (0, 0) X4.out
  have X4c9 := cell_of_row _ _ 9 _ _ (0, 0) X4.out
  have X4c10 := cell_of_row _ _ 10 _ _ (0, 0) X4.out
  simp only [List.getElem?_toArray, List.getElem?_cons_zero, List.getElem?_cons_succ] at X4c0 X4c1 X4c2 X4c3 X4c4 X4c5 X4c6 X4c7 X4c8 X4c9 X4c10
  go_wp2_with fail
  refine (implBookTime_any _ _ l0 a1 w106 (HHD.out.below (HB0.out.trans (hB6.mono (by first | omega | (simp <;> omega)))) (Nat.le_refl _)) HS0.out HY0.out.2 (AcctsIv.rd H4.out) (by omega)).mono ?_
  rintro e w107 ⟨u_7, rfl, hu7, hb7⟩
  rw [← HLR.out] at hu7
  obtain ⟨A_7, c_7, rfl, -⟩ := Rep.slice_form (AcctsIv.rd hu7)
  have zz107 : w106.heap.size ≤ w107.heap.size := hb7.size
  have hB7 := hB6.trans (hb7.mono (show w.heap.size + 1 ≤ _ by omega))
  replace HX0 := Lib.hid (Rep.below (R := AcctsR) HX0.out hb7 (by omega))
  replace HW := Lib.hid (HW.out.below hb7 (by omega))
  replace XW := Lib.hid ((hb7.block _ (by omega)).trans XW.out)
  replace H4 := Lib.hid (AcctsIv.below H4.out hb7 (by omega))
  replace X4 := Lib.hid ((hb7.block _ (by omega)).trans X4.out)
  clear x_0
  have x_0 := HX.out w107 hB7
  have HG := Lib.hid hu7
  clear XWc0
  clear X4c0
  have XWc0 := cell_of_row _ _ 0 _ _ (0, 0) XW.out
  simp only [List.getElem?_toArray, List.getElem?_cons_zero] at XWc0
  have X4c0 := cell_of_row _ _ 0 _ _ (0, 0) X4.out
  simp only [List.getElem?_toArray, List.getElem?_cons_zero] at X4c0
  have yy7_0 : w.heap.size < w107.heap.size := by omega
  have yy7XW : w103.heap.size < w107.heap.size := by omega
  have yy7X4 : w105.heap.size < w107.heap.size := by omega
  go_wp2_with fail
  have hb8 := (Below.refl w107.heap.size w107).alloc (Nat.le_refl _) (.cells #[.slice A_7 lr.length c_7] 29)
  have hXG := heap_alloc_new w107 (.cells #[.slice A_7 lr.length c_7] 29)
  generalize w107.alloc (.cells #[.slice A_7 lr.length c_7] 29) = w108 at hb8 hXG ⊢
  have zz108 : w107.heap.size ≤ w108.heap.size := hb8.size
  have zl8 : w107.heap.size < w108.heap.size := lt_of_block hXG
  have hB8 := hB7.trans (hb8.mono (show w.heap.size + 1 ≤ _ by omega))
  replace HX0 := Lib.hid (Rep.below (R := AcctsR) HX0.out hb8 (by omega))
  replace HW := Lib.hid (HW.out.below hb8 (by omega))
  replace XW := Lib.hid ((hb8.block _ (by omega)).trans XW.out)
  replace H4 := Lib.hid (AcctsIv.below H4.out hb8 (by omega))
  replace X4 := Lib.hid ((hb8.block _ (by omega)).trans X4.out)
  replace HG := Lib.hid (AcctsIv.below HG.out hb8 (by omega))
  have XG := Lib.hid hXG
  clear hXG
  clear x_0
  have x_0 := HX.out w108 hB8
  have XGc0 := cell_of_row _ _ 0 _ _ (0, 0) XG.out
  have XGc1 := cell_of_row _ _ 1 _ _ (0, 0) XG.out
  have XGc2 := cell_of_row _ _ 2 _ _ (0, 0) XG.out
  have XGc3 := cell_of_row _ _ 3 _ _ (0, 0) XG.out
  have XGc4 := cell_of_row _ _ 4 _ _ (0, 0) XG.out
  have XGc5 := cell_of_row _ _ 5 _ _ (0, 0) XG.out
  have XGc6 := cell_of_row _ _ 6 _ _ (0, 0) XG.out
  have XGc7 := cell_of_row _ _ 7 _ _ (0, 0) XG.out
  have XGc8 := cell_of_row _ _ 8 _ _ (0, 0) XG.out
  have XGc9 := cell_of_row _ _ 9 _ _ (0, 0) XG.out
  have XGc10 := cell_of_row _ _ 10 _ _ (0, 0) XG.out
  simp only [List.getElem?_toArray, List.getElem?_cons_zero, List.getElem?_cons_succ] at XGc0 XGc1 XGc2 XGc3 XGc4 XGc5 XGc6 XGc7 XGc8 XGc9 XGc10
  go_wp2_with fail
  refine (eqBook_any _ _ _ _ lr w108 HS9.out (AcctsIv.rd HG.out) (Rep.mine.rd HW.out) (by omega) (by omega)).mono ?_
  rintro e w109 ⟨rfl, hb9⟩
  have zz109 : w108.heap.size ≤ w109.heap.size := hb9.size
  have hB9 := hB8.trans (hb9.mono (show w.heap.size + 1 ≤ _ by omega))
  replace HX0 := Lib.hid (Rep.below (R := AcctsR) HX0.out hb9 (by omega))
  replace HW := Lib.hid (HW.out.below hb9 (by omega))
  replace XW := Lib.hid ((hb9.block _ (by omega)).trans XW.out)
  replace H4 := Lib.hid (AcctsIv.below H4.out hb9 (by omega))
  replace X4 := Lib.hid ((hb9.block _ (by omega)).trans X4.out)
  replace HG := Lib.hid (AcctsIv.below HG.out hb9 (by omega))
  replace XG := Lib.hid ((hb9.block _ (by omega)).trans XG.out)
  clear x_0
  have x_0 := HX.out w109 hB9
  clear XWc0
  clear X4c0
  clear XGc0
  have XWc0 := cell_of_row _ _ 0 _ _ (0, 0) XW.out
  simp only [List.getElem?_toArray, List.getElem?_cons_zero] at XWc0
  have X4c0 := cell_of_row _ _ 0 _ _ (0, 0) X4.out
  simp only [List.getElem?_toArray, List.getElem?_cons_zero] at X4c0
  have XGc0 := cell_of_row _ _ 0 _ _ (0, 0) XG.out
  simp only [List.getElem?_toArray, List.getElem?_cons_zero] at XGc0
  go_wp2
  have hD : Below w109.heap.size w109 w109.drew := (Below.refl _ _).drew
  have zD : w109.drew.heap.size = w109.heap.size := rfl
  go_region_held3 (fun V => V.cell? ⟨w105.heap.size, 0, none⟩ = some (.slice A_5 l0.length c_5) ∧ V.cell? ⟨w.heap.size, 0, none⟩ = some (.slice AB0 l0.length cB0)) (go_keep) (first | (go_at_call 8; refine (toBook_any w.heap.size _ l0 w109.drew HS0.out (Rep.below (R := AcctsR) HX0.out hD (by omega)) (show w.heap.size ≤ w109.heap.size by omega)).mono ?_; rintro e w110 ⟨uq, rfl, huq, hbq⟩; obtain ⟨Aq, cq, rfl, -⟩ := Rep.slice_form (AcctsIv.rd huq); have zq := hbq.size; have qa0 := (hbq.cell (p := ⟨w105.heap.size, 0, none⟩) (show w105.heap.size < _ by omega)).trans X4c0; have qa1 := (hbq.cell (p := ⟨w.heap.size, 0, none⟩) (show w.heap.size < _ by omega)).trans x_0) | (go_at_call 10; refine (eqBook_any _ _ _ _ l0 w110 HS0.out (AcctsIv.rd (AcctsIv.below (AcctsIv.below H4.out hD (by omega)) hbq (by omega))) (AcctsIv.rd huq) (by omega) (by omega)).mono ?_; rintro e w111 ⟨rfl, hbr⟩; have qb0 := (hbr.cell (p := ⟨w105.heap.size, 0, none⟩) (show w105.heap.size < _ by omega)).trans qa0; have qb1 := (hbr.cell (p := ⟨w.heap.size, 0, none⟩) (show w.heap.size < _ by omega)).trans qa1) | fail)
  have hb11 : Below w109.heap.size w109 w111 := (hD.trans (hbq.mono (show w109.heap.size ≤ _ by omega))).trans (hbr.mono (show w109.heap.size ≤ _ by omega))
  have hB11 := hB9.trans (hb11.mono (show w.heap.size + 1 ≤ _ by omega))
  have zz111 : w109.heap.size ≤ w111.heap.size := hb11.size
  clear hbq hbr huq qa0 qb0 qa1 qb1 hD zD
  replace HX0 := Lib.hid (Rep.below (R := AcctsR) HX0.out hb11 (by omega))
  replace HW := Lib.hid (HW.out.below hb11 (by omega))
  replace XW := Lib.hid ((hb11.block _ (by omega)).trans XW.out)
  replace H4 := Lib.hid (AcctsIv.below H4.out hb11 (by omega))
  replace X4 := Lib.hid ((hb11.block _ (by omega)).trans X4.out)
  replace HG := Lib.hid (AcctsIv.below HG.out hb11 (by omega))
  replace XG := Lib.hid ((hb11.block _ (by omega)).trans XG.out)
  clear x_0
  have x_0 := HX.out w111 hB11
  clear XWc0
  clear X4c0
  clear XGc0
  have XWc0 := cell_of_row _ _ 0 _ _ (0, 0) XW.out
  simp only [List.getElem?_toArray, List.getElem?_cons_zero] at XWc0
  have X4c0 := cell_of_row _ _ 0 _ _ (0, 0) X4.out
  simp only [List.getElem?_toArray, List.getElem?_cons_zero] at X4c0
  have XGc0 := cell_of_row _ _ 0 _ _ (0, 0) XG.out
  simp only [List.getElem?_toArray, List.getElem?_cons_zero] at XGc0
  go_wp2_with fail
  refine (markBook_any _ _ _ l0 1 w111 HS0.out (by omega) HK0.out H4.out (by omega)).mono ?_
  rintro e w112 ⟨rfl, hmk12, ht12⟩
  have zz112 : w111.heap.size ≤ w112.heap.size := ht12.size
  have hB12 := hB11.trans (ht12.below (show w.heap.size + 1 ≤ _ by omega) (by omega))
  replace HX0 := Lib.hid (Rep.turned (R := AcctsR) HX0.out ht12 (by omega) (by omega))
  replace HW := Lib.hid (HW.out.turned ht12 (by omega) (by omega))
  replace XW := Lib.hid ((ht12.block _ (by omega) (by omega)).trans XW.out)
  replace X4 := Lib.hid ((ht12.block _ (by omega) (by omega)).trans X4.out)
  replace HG := Lib.hid (AcctsIv.turned HG.out ht12 (by omega) (by omega))
  replace XG := Lib.hid ((ht12.block _ (by omega) (by omega)).trans XG.out)
  clear H4
  clear x_0
  have x_0 := HX.out w112 hB12
  clear XWc0
  clear X4c0
  clear XGc0
  have XWc0 := cell_of_row _ _ 0 _ _ (0, 0) XW.out
  simp only [List.getElem?_toArray, List.getElem?_cons_zero] at XWc0
  have X4c0 := cell_of_row _ _ 0 _ _ (0, 0) X4.out
  simp only [List.getElem?_toArray, List.getElem?_cons_zero] at X4c0
  have XGc0 := cell_of_row _ _ 0 _ _ (0, 0) XG.out
  simp only [List.getElem?_toArray, List.getElem?_cons_zero] at XGc0
  have kka := kBk_up l0 1
  generalize kBk l0 1 = Ka at kka ⊢
  have kka0 : ¬ (Ka < 0) := by omega
  go_wp2_with fail
  refine (eqBook_any _ _ _ _ lr w112 HS9.out (AcctsIv.rd HG.out) (Rep.mine.rd HW.out) (by omega) (by omega)).mono ?_
  rintro e w113 ⟨rfl, hb13⟩
  have zz113 : w112.heap.size ≤ w113.heap.size := hb13.size
  have hB13 := hB12.trans (hb13.mono (show w.heap.size + 1 ≤ _ by omega))
  replace HX0 := Lib.hid (Rep.below (R := AcctsR) HX0.out hb13 (by omega))
  replace HW := Lib.hid (HW.out.below hb13 (by omega))
  replace XW := Lib.hid ((hb13.block _ (by omega)).trans XW.out)
  replace X4 := Lib.hid ((hb13.block _ (by omega)).trans X4.out)
  replace HG := Lib.hid (AcctsIv.below HG.out hb13 (by omega))
  replace XG := Lib.hid ((hb13.block _ (by omega)).trans XG.out)
  clear x_0
  have x_0 := HX.out w113 hB13
  clear XWc0
  clear X4c0
  clear XGc0
  have XWc0 := cell_of_row _ _ 0 _ _ (0, 0) XW.out
  simp only [List.getElem?_toArray, List.getElem?_cons_zero] at XWc0
  have X4c0 := cell_of_row _ _ 0 _ _ (0, 0) X4.out
  simp only [List.getElem?_toArray, List.getElem?_cons_zero] at X4c0
  have XGc0 := cell_of_row _ _ 0 _ _ (0, 0) XG.out
  simp only [List.getElem?_toArray, List.getElem?_cons_zero] at XGc0
  go_wp2_with fail
  refine (markBook_any _ _ _ lr 1 w113 HS9.out (by omega) HK9.out HG.out (by omega)).mono ?_
  rintro e w114 ⟨rfl, hmk14, ht14⟩
  have zz114 : w113.heap.size ≤ w114.heap.size := ht14.size
  have hB14 := hB13.trans (ht14.below (show w.heap.size + 1 ≤ _ by omega) (by omega))
  replace HX0 := Lib.hid (Rep.turned (R := AcctsR) HX0.out ht14 (by omega) (by omega))
  replace HW := Lib.hid (HW.out.turned ht14 (by omega) (by omega))
  replace XW := Lib.hid ((ht14.block _ (by omega) (by omega)).trans XW.out)
  replace X4 := Lib.hid ((ht14.block _ (by omega) (by omega)).trans X4.out)
  replace XG := Lib.hid ((ht14.block _ (by omega) (by omega)).trans XG.out)
  clear HG
  clear x_0
  have x_0 := HX.out w114 hB14
  have HM := Lib.hid hmk14
  clear XWc0
  clear X4c0
  clear XGc0
  have XWc0 := cell_of_row _ _ 0 _ _ (0, 0) XW.out
  simp only [List.getElem?_toArray, List.getElem?_cons_zero] at XWc0
  have X4c0 := cell_of_row _ _ 0 _ _ (0, 0) X4.out
  simp only [List.getElem?_toArray, List.getElem?_cons_zero] at X4c0
  have XGc0 := cell_of_row _ _ 0 _ _ (0, 0) XG.out
  simp only [List.getElem?_toArray, List.getElem?_cons_zero] at XGc0
  have HHE := Lib.hid (fun W hi v (h : AcctsR.rd hi W [v] (bookMark lr 1)) (hh : hi ≤ W.heap.size) => heldBook_any hi v lr 1 W HS9.out (by omega) HK9.out h hh)
  have kk := kBk_up lr 1
  generalize kBk lr 1 = K0 at HHE kk ⊢
  have kk0 : ¬ (K0 < 0) := by omega
  go_wp2_with fail
  refine (HHE.out w114 _ _ (AcctsIv.rd HM.out) (by omega)).mono ?_
  rintro e w115 ⟨rfl, hb15⟩
  have zz115 : w114.heap.size ≤ w115.heap.size := hb15.size
  have hB15 := hB14.trans (hb15.mono (show w.heap.size + 1 ≤ _ by omega))
  replace HX0 := Lib.hid (Rep.below (R := AcctsR) HX0.out hb15 (by omega))
  replace HW := Lib.hid (HW.out.below hb15 (by omega))
  replace XW := Lib.hid ((hb15.block _ (by omega)).trans XW.out)
  replace X4 := Lib.hid ((hb15.block _ (by omega)).trans X4.out)
  replace XG := Lib.hid ((hb15.block _ (by omega)).trans XG.out)
  replace HM := Lib.hid (AcctsIv.below HM.out hb15 (by omega))
  clear x_0
  have x_0 := HX.out w115 hB15
  clear XWc0
  clear X4c0
  clear XGc0
  have XWc0 := cell_of_row _ _ 0 _ _ (0, 0) XW.out
  simp only [List.getElem?_toArray, List.getElem?_cons_zero] at XWc0
  have X4c0 := cell_of_row _ _ 0 _ _ (0, 0) X4.out
  simp only [List.getElem?_toArray, List.getElem?_cons_zero] at X4c0
  have XGc0 := cell_of_row _ _ 0 _ _ (0, 0) XG.out
  simp only [List.getElem?_toArray, List.getElem?_cons_zero] at XGc0
  go_wp2_with fail
  refine (toBook_any w.heap.size _ l0 w115 HS0.out HX0.out (by omega)).mono ?_
  rintro e w116 ⟨u_16, rfl, hu16, hb16⟩
  obtain ⟨A_16, c_16, rfl, -⟩ := Rep.slice_form (AcctsIv.rd hu16)
  have zz116 : w115.heap.size ≤ w116.heap.size := hb16.size
  have hB16 := hB15.trans (hb16.mono (show w.heap.size + 1 ≤ _ by omega))
  replace HX0 := Lib.hid (Rep.below (R := AcctsR) HX0.out hb16 (by omega))
  replace HW := Lib.hid (HW.out.below hb16 (by omega))
  replace XW := Lib.hid ((hb16.block _ (by omega)).trans XW.out)
  replace X4 := Lib.hid ((hb16.block _ (by omega)).trans X4.out)
  replace XG := Lib.hid ((hb16.block _ (by omega)).trans XG.out)
  replace HM := Lib.hid (AcctsIv.below HM.out hb16 (by omega))
  clear x_0
  have x_0 := HX.out w116 hB16
  have H5 := Lib.hid hu16
  clear XWc0
  clear X4c0
  clear XGc0
  have XWc0 := cell_of_row _ _ 0 _ _ (0, 0) XW.out
  simp only [List.getElem?_toArray, List.getElem?_cons_zero] at XWc0
  have X4c0 := cell_of_row _ _ 0 _ _ (0, 0) X4.out
  simp only [List.getElem?_toArray, List.getElem?_cons_zero] at X4c0
  have XGc0 := cell_of_row _ _ 0 _ _ (0, 0) XG.out
  simp only [List.getElem?_toArray, List.getElem?_cons_zero] at XGc0
  go_wp2_with fail
  refine (implBookTime_any _ _ l0 a1 w116 (HHD.out.below (HB0.out.trans (hB16.mono (by first | omega | (simp <;> omega)))) (Nat.le_refl _)) HS0.out HY0.out.2 (AcctsIv.rd H5.out) (by omega)).mono ?_
  rintro e w117 ⟨u_17, rfl, hu17, hb17⟩
  rw [← HLR.out] at hu17
  obtain ⟨A_17, c_17, rfl, -⟩ := Rep.slice_form (AcctsIv.rd hu17)
  have zz117 : w116.heap.size ≤ w117.heap.size := hb17.size
  have hB17 := hB16.trans (hb17.mono (show w.heap.size + 1 ≤ _ by omega))
  replace HX0 := Lib.hid (Rep.below (R := AcctsR) HX0.out hb17 (by omega))
  replace HW := Lib.hid (HW.out.below hb17 (by omega))
  replace XW := Lib.hid ((hb17.block _ (by omega)).trans XW.out)
  replace X4 := Lib.hid ((hb17.block _ (by omega)).trans X4.out)
  replace XG := Lib.hid ((hb17.block _ (by omega)).trans XG.out)
  replace HM := Lib.hid (AcctsIv.below HM.out hb17 (by omega))
  replace H5 := Lib.hid (AcctsIv.below H5.out hb17 (by omega))
  clear x_0
  have x_0 := HX.out w117 hB17
  have HH := Lib.hid hu17
  clear XWc0
  clear X4c0
  clear XGc0
  have XWc0 := cell_of_row _ _ 0 _ _ (0, 0) XW.out
  simp only [List.getElem?_toArray, List.getElem?_cons_zero] at XWc0
  have X4c0 := cell_of_row _ _ 0 _ _ (0, 0) X4.out
  simp only [List.getElem?_toArray, List.getElem?_cons_zero] at X4c0
  have XGc0 := cell_of_row _ _ 0 _ _ (0, 0) XG.out
  simp only [List.getElem?_toArray, List.getElem?_cons_zero] at XGc0
  have yy17_0 : w.heap.size < w117.heap.size := by omega
  have yy17XW : w103.heap.size < w117.heap.size := by omega
  have yy17X4 : w105.heap.size < w117.heap.size := by omega
  have yy17XG : w107.heap.size < w117.heap.size := by omega
  go_wp2_with fail
  have hb18 := (Below.refl w117.heap.size w117).alloc (Nat.le_refl _) (.cells #[.slice A_17 lr.length c_17] 29)
  have hXH := heap_alloc_new w117 (.cells #[.slice A_17 lr.length c_17] 29)
  generalize w117.alloc (.cells #[.slice A_17 lr.length c_17] 29) = w118 at hb18 hXH ⊢
  have zz118 : w117.heap.size ≤ w118.heap.size := hb18.size
  have zl18 : w117.heap.size < w118.heap.size := lt_of_block hXH
  have hB18 := hB17.trans (hb18.mono (show w.heap.size + 1 ≤ _ by omega))
  replace HX0 := Lib.hid (Rep.below (R := AcctsR) HX0.out hb18 (by omega))
  replace HW := Lib.hid (HW.out.below hb18 (by omega))
  replace XW := Lib.hid ((hb18.block _ (by omega)).trans XW.out)
  replace X4 := Lib.hid ((hb18.block _ (by omega)).trans X4.out)
  replace XG := Lib.hid ((hb18.block _ (by omega)).trans XG.out)
  replace HM := Lib.hid (AcctsIv.below HM.out hb18 (by omega))
  replace H5 := Lib.hid (AcctsIv.below H5.out hb18 (by omega))
  replace HH := Lib.hid (AcctsIv.below HH.out hb18 (by omega))
  have XH := Lib.hid hXH
  clear hXH
  clear x_0
  have x_0 := HX.out w118 hB18
  have XHc0 := cell_of_row _ _ 0 _ _ (0, 0) XH.out
  have XHc1 := cell_of_row _ _ 1 _ _ (0, 0) XH.out
  have XHc2 := cell_of_row _ _ 2 _ _ (0, 0) XH.out
  have XHc3 := cell_of_row _ _ 3 _ _ (0, 0) XH.out
  have XHc4 := cell_of_row _ _ 4 _ _ (0, 0) XH.out
  have XHc5 := cell_of_row _ _ 5 _ _ (0, 0) XH.out
  have XHc6 := cell_of_row _ _ 6 _ _ (0, 0) XH.out
  have XHc7 := cell_of_row _ _ 7 _ _ (0, 0) XH.out
  have XHc8 := cell_of_row _ _ 8 _ _ (0, 0) XH.out
  have XHc9 := cell_of_row _ _ 9 _ _ (0, 0) XH.out
  have XHc10 := cell_of_row _ _ 10 _ _ (0, 0) XH.out
  simp only [List.getElem?_toArray, List.getElem?_cons_zero, List.getElem?_cons_succ] at XHc0 XHc1 XHc2 XHc3 XHc4 XHc5 XHc6 XHc7 XHc8 XHc9 XHc10
  go_wp2_with fail
  refine (eqBook_any _ _ _ _ lr w118 HS9.out (AcctsIv.rd HH.out) (Rep.mine.rd HW.out) (by omega) (by omega)).mono ?_
  rintro e w119 ⟨rfl, hb19⟩
  have zz119 : w118.heap.size ≤ w119.heap.size := hb19.size
  have hB19 := hB18.trans (hb19.mono (show w.heap.size + 1 ≤ _ by omega))
  replace HX0 := Lib.hid (Rep.below (R := AcctsR) HX0.out hb19 (by omega))
  replace HW := Lib.hid (HW.out.below hb19 (by omega))
  replace XW := Lib.hid ((hb19.block _ (by omega)).trans XW.out)
  replace X4 := Lib.hid ((hb19.block _ (by omega)).trans X4.out)
  replace XG := Lib.hid ((hb19.block _ (by omega)).trans XG.out)
  replace HM := Lib.hid (AcctsIv.below HM.out hb19 (by omega))
  replace H5 := Lib.hid (AcctsIv.below H5.out hb19 (by omega))
  replace HH := Lib.hid (AcctsIv.below HH.out hb19 (by omega))
  replace XH := Lib.hid ((hb19.block _ (by omega)).trans XH.out)
  clear x_0
  have x_0 := HX.out w119 hB19
  clear XWc0
  clear X4c0
  clear XGc0
  clear XHc0
  have XWc0 := cell_of_row _ _ 0 _ _ (0, 0) XW.out
  simp only [List.getElem?_toArray, List.getElem?_cons_zero] at XWc0
  have X4c0 := cell_of_row _ _ 0 _ _ (0, 0) X4.out
  simp only [List.getElem?_toArray, List.getElem?_cons_zero] at X4c0
  have XGc0 := cell_of_row _ _ 0 _ _ (0, 0) XG.out
  simp only [List.getElem?_toArray, List.getElem?_cons_zero] at XGc0
  have XHc0 := cell_of_row _ _ 0 _ _ (0, 0) XH.out
  simp only [List.getElem?_toArray, List.getElem?_cons_zero] at XHc0
  go_wp2_with fail
  refine (HHE.out w119 _ _ (AcctsIv.rd HM.out) (by omega)).mono ?_
  rintro e w120 ⟨rfl, hb20⟩
  have zz120 : w119.heap.size ≤ w120.heap.size := hb20.size
  have hB20 := hB19.trans (hb20.mono (show w.heap.size + 1 ≤ _ by omega))
  replace HX0 := Lib.hid (Rep.below (R := AcctsR) HX0.out hb20 (by omega))
  replace HW := Lib.hid (HW.out.below hb20 (by omega))
  replace XW := Lib.hid ((hb20.block _ (by omega)).trans XW.out)
  replace X4 := Lib.hid ((hb20.block _ (by omega)).trans X4.out)
  replace XG := Lib.hid ((hb20.block _ (by omega)).trans XG.out)
  replace HM := Lib.hid (AcctsIv.below HM.out hb20 (by omega))
  replace H5 := Lib.hid (AcctsIv.below H5.out hb20 (by omega))
  replace HH := Lib.hid (AcctsIv.below HH.out hb20 (by omega))
  replace XH := Lib.hid ((hb20.block _ (by omega)).trans XH.out)
  clear x_0
  have x_0 := HX.out w120 hB20
  clear XWc0
  clear X4c0
  clear XGc0
  clear XHc0
  have XWc0 := cell_of_row _ _ 0 _ _ (0, 0) XW.out
  simp only [List.getElem?_toArray, List.getElem?_cons_zero] at XWc0
  have X4c0 := cell_of_row _ _ 0 _ _ (0, 0) X4.out
  simp only [List.getElem?_toArray, List.getElem?_cons_zero] at X4c0
  have XGc0 := cell_of_row _ _ 0 _ _ (0, 0) XG.out
  simp only [List.getElem?_toArray, List.getElem?_cons_zero] at XGc0
  have XHc0 := cell_of_row _ _ 0 _ _ (0, 0) XH.out
  simp only [List.getElem?_toArray, List.getElem?_cons_zero] at XHc0
  go_wp2
  go_ret
  exact ⟨rfl, (HB0.out.trans (hB20.mono (by first | omega | (simp <;> omega))))⟩

set_option maxRecDepth 100000 in
theorem t0 : (Tryz.prog.globals[0]?).map (·.type) = some 142 := by kernel_rfl
set_option maxRecDepth 100000 in
theorem g0 : Tryz.prog.globalNamed "loop.example/g00735/impl.errNotMoney" = some 0 := by kernel_rfl
set_option maxRecDepth 100000 in
theorem cellsE : Tryz.prog.cellsOf 200 = 1 := by kernel_rfl
set_option maxRecDepth 100000 in
theorem cellsS : Tryz.prog.cellsOf 9 = 1 := by kernel_rfl
set_option maxRecDepth 100000 in
theorem star : "*" ++ "errors.errorString" = "*errors.errorString" := by decide
set_option maxRecDepth 100000 in
theorem rowE (u : TypeId) (h : Tryz.prog.typeName? 3 u = some "*errors.errorString") : u = 178 :=
  typeName_ptr_named (nm := "errors.errorString") (by rw [star]; kernel_rfl) (by kernel_rfl) (by decide) u (by rw [star]; exact h)
set_option maxRecDepth 100000 in
theorem gH : Tryz.prog.globalNamed "errors.errorType" = some 1 := by kernel_rfl
set_option maxRecDepth 100000 in
theorem rtH : (Tryz.prog.cutTypes.find? (·.1 == "internal/reflectlite.rtype")).map (·.2) = some 165 := by kernel_rfl
set_option maxRecDepth 100000 in
theorem oneH : ((List.range Tryz.prog.types.size).filter fun t => Tryz.prog.rowNamed t [101, 114, 114, 111, 114]) = [142] := by kernel_rfl
set_option maxRecDepth 100000 in
theorem handle_of {W : World} (h : handlesMet Tryz.prog [("errors.errorType", Rows.laid_errors_errorType)] W) : W.cell? ⟨1, 0, none⟩ = some (.iface 165 (.agg #[.pointer (some ⟨2, 142, none⟩)])) := by
  obtain ⟨name, u, ty, e1, e2, e3, e4, e5⟩ := h _ (List.mem_singleton.2 rfl)
  have en : name = [101, 114, 114, 111, 114] := (Option.some.inj e1).symm
  subst en
  obtain rfl := Option.some.inj (rtH.symm.trans e2)
  have hm : ty ∈ (List.range Tryz.prog.types.size).filter fun t => Tryz.prog.rowNamed t [101, 114, 114, 111, 114] := List.mem_filter.2 ⟨List.mem_range.2 e3, e4⟩
  rw [oneH] at hm
  obtain rfl := List.mem_singleton.1 hm
  have hh : typeHandle Tryz.prog 142 = .pointer (some ⟨2, 142, none⟩) := by kernel_rfl
  rw [hh] at e5
  simpa using World.var?_cell gH e5 0

set_option maxRecDepth 100000 in
theorem laidOut : laidOutB Tryz.prog = true := by kernel_rfl
set_option maxRecDepth 100000 in
theorem rowed : allRowed Tryz.prog Tryz.f4.params.toList = true := by kernel_rfl
set_option maxRecDepth 100000 in
theorem resT : Tryz.f4.resultTypes = #[4] := by kernel_rfl
set_option maxRecDepth 100000 in
theorem door_met (os : Os) (args : Array Value) : laidMetH Tryz.prog Rows.fnExactBookTimeRow.laid ((World.doorLaid Tryz.prog 400 os).forCall (fun _ _ => 0) ⟨#[], args, []⟩).memory :=
  laidMetH_of_parts3 (fuel := 8) (laidMet_of_run' 8 (by kernel_rfl) (by kernel_rfl)) (by kernel_rfl) (by kernel_rfl)

set_option maxRecDepth 100000 in
theorem lifted (os : Os) (started : os.Started) (H : Type) (enc : TypeId × Value → H) :
    ReturnsInHanded {} Tryz.checked os 4 .any (fun w args => (Rows.fnExactBookTimeSpec.pre enc Tryz.prog Tryz.f4 [] false w args ∧ laidMetH Tryz.prog Rows.fnExactBookTimeRow.laid w) ∧ sizedMet enc Tryz.prog Tryz.f4 (OpenSpec.ofChange Rows.fnExactBookTimeSpec) false w args)
      (Rows.fnExactBookTimeSpec.post enc Tryz.prog Tryz.f4 false true false false) := by
  refine returnsInHanded_of_change_and (C := Tryz.checked) (X := fun w _ => laidMetH Tryz.prog Rows.fnExactBookTimeRow.laid w) (fun _ _ _ hh h => h.of_heap hh) own started (by kernel_rfl) Tryz.func4
    (ChangeSpec.witness_shaped (enc := enc) (C := Tryz.checked) (os := os) (X := fun w _ => laidMetH Tryz.prog Rows.fnExactBookTimeRow.laid w) false (World.doorLaid Tryz.prog 400 os) #[.agg #[.slice none 0 0], .int .i64 0] 8 rfl (World.shaped_of_RefB (by kernel_rfl) (by kernel_rfl)) (by kernel_rfl) (by kernel_rfl) (by kernel_rfl) (door_met os _)) ?_
  intro W base args ds gs before hval0 hW _ _ hL0 _
  have hval : ∀ (j : Nat) t v, Tryz.f4.params[j]? = some t → args[j]? = some v → Value.okWide Tryz.prog W .any base t v := hval0
  have hW' := hW
  obtain ⟨p, q, hA0, hV, rfl, hfz, hnd⟩ := hW
  have hA : DataW.TrodAll enc Tryz.prog W 0 (fun _ => true) true Tryz.f4.params.toList args.toList ds p := hA0
  rw [Tryz.params4] at hA hval
  have hh := handle_of hL0.2
  have hL : laidMet Tryz.prog [("loop.example/g00735/impl.errNotMoney", Rows.laid_loop_example_g00735_impl_errNotMoney)] W := hL0.1
  obtain ⟨b0, s0, hv0, _, _, _⟩ := laid_sentinel hL g0 t0 Tryz.underlying142 rowE Tryz.underlying178 Tryz.underlying200 rfl rfl Tryz.underlying9 cellsE cellsS
  have hc0 : W.cell? ⟨0, 0, none⟩ = some (.iface 178 (.pointer (some b0))) := by simpa using World.var?_cell g0 hv0 0
  have hlt0 : 0 < W.heap.size := by
    rcases Nat.lt_or_ge 0 W.heap.size with h | h
    · exact h
    · simp [World.cell?, Array.getElem?_eq_none h] at hc0
  obtain ⟨v0, vs0, d0, ds0, p0, q0, hargs, rfl, rfl, h0, r0⟩ := trodAll_cons hA
  obtain ⟨v1, vs1, d1, ds1, p1, q1, rfl, rfl, rfl, h1, r1⟩ := trodAll_cons r0
  obtain ⟨rfl, rfl, rfl⟩ := trodAll_nil r1
  obtain rfl : args = #[v0, v1] := by cases args; simp_all
  obtain ⟨rfl, rfl⟩ := hV.unique (vars_read1 enc g0 t0 Tryz.underlying142 hv0 trivial _)
  obtain ⟨l0, vb0, rfl, w0, z0⟩ := open_book (hval 0 24 v0 rfl rfl) h0
  obtain ⟨a1, rfl, rfl, rfl, w1⟩ := open_int Tryz.underlying3 (hval 1 3 v1 rfl rfl) h1
  clear hA0 hval0
  refine (walk W _ hc0 hh _ _ _ w0 z0 w1).mono fun e W' ⟨he, hg⟩ => ?_
  subst he
  exact ⟨_, rfl, post_true laidOut rowed hW' rfl resT Tryz.underlying4 hg (vars_read1 enc g0 t0 Tryz.underlying142 (var?_below hg g0 hlt0 hv0) trivial _)⟩

set_option maxRecDepth 100000 in
theorem over : Rows.fnExactBookTimeRow.holds Tryz.pinned (OpenSpec.ofChange Rows.fnExactBookTimeSpec) :=
  OpenClaim.holds_of_wide 4 Tryz.f4 rfl rfl rfl rfl rfl rfl rfl ⟨rfl, rfl, rfl, rfl, rfl⟩ rfl rfl rfl rfl rfl (by kernel_rfl) Tryz.func4 (by kernel_rfl)
    (of_decide_eq_true (by kernel_rfl)) (by unfold Func.isWrapper; first | (rw [if_pos (by decide +kernel)]; kernel_rfl) | (rw [if_neg (by decide +kernel)]; exact ⟨rfl, rfl⟩))
    (fun os started H enc _ => lifted os started H enc)

set_option maxRecDepth 100000 in
theorem said : Rows.FnExactBookTimeSaid :=
  over

set_option maxRecDepth 100000 in
theorem plain (f : FuncId) (fn : Func) (hf : Tryz.pinned.checked.prog.funcNamed "loop.example/g00735/laws.FnExactBookTime" = some f) (hfn : Tryz.pinned.checked.prog.funcs[f]? = some fn) :
    Rows.fnExactBookTimeCard.stood.looks = Tryz.pinned.checked.prog.looks [] ∧ ∀ (j : Nat) t, fn.params[j]? = some t → Tryz.pinned.checked.prog.wantsStandIn t = false := by
  obtain rfl : f = 4 := Option.some.inj ((show Tryz.prog.funcNamed "loop.example/g00735/laws.FnExactBookTime" = some 4 by kernel_rfl).symm.trans hf) |>.symm
  obtain rfl : fn = Tryz.f4 := (Option.some.inj (Tryz.func4.symm.trans hfn)).symm
  refine ⟨by kernel_rfl, fun j t ht => ?_⟩
  rw [Tryz.params4] at ht
  have hm : t ∈ [24, 3] := by simpa using Array.mem_of_getElem? ht
  have hall : ([24, 3].all fun u => !Tryz.prog.wantsStandIn u) = true := by kernel_rfl
  exact (show Tryz.prog.wantsStandIn t = false by simpa using List.all_eq_true.1 hall t hm)

set_option maxRecDepth 100000 in
theorem proved : Rows.FnExactBookTimeCardSaid :=
  Claim7.holds_tied_plain_at .later [] _ _ _ _ said (fun _ h => by cases h) (by kernel_rfl) (fun _ h => by cases h) fnExactBookTime_row_tie rfl ⟨rfl, rfl⟩ (by kernel_rfl) rfl plain (by kernel_rfl)
#print axioms proved
end Go.Proofs.YthnimmagaocipaaGreatDoor.fnExactBookTime
