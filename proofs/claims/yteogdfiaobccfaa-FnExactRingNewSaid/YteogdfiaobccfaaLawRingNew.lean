/- FnExactRingNew: for every argument the law answers true: the program's function returns what the reference returns; the listed package variables hold what the program's text lays (tied). -/
import Derived.Test.YteogdfiaobccfaaPost
import Derived.Test.YteogdfiaobccfaaRingN
import Derived.Test.YteogdfiaobccfaaRingH
import Derived.Test.YteogdfiaobccfaaRingNI
namespace Go.Proofs.Yteogdfiaobccfaa.fnExactRingNew
open Go.ChangeShapes Go.WideShapes Go.ChangeAt Go.RowKit
open Go.WideMaps Go.WideElems
open Go.ChangeMaps (open_string shut_string)
set_option linter.unusedVariables false

set_option maxRecDepth 100000 in
theorem own : ownKnob Try.prog.godebug = none := by kernel_rfl

set_option maxRecDepth 100000 in
set_option maxHeartbeats 8000000 in
theorem walk (w : World)  (a0 : Int) (a1 : Int) (w0 : (Lit.int .i64 a0).wf = true) (w1 : (Lit.int .i64 a1).wf = true) :
    Calls Try.prog 3 #[.int .i64 a0, .int .i64 a1] w fun e w' => e = .returned (.bool true) ∧ Below w.heap.size w w' := by
  have HB0 : Hid (Below w.heap.size w w) := Lib.hid (Below.refl _ _)
  have hB0 : Below w.heap.size w w := Below.refl _ _
  have hwc : (ringNew a0 a1).1.2.2.1.length ≤ 1048576 := Nat.le_trans (ringNew_len a0 a1).1 (by omega)
  have hws : (ringNew a0 a1).1.2.2.2.length ≤ 1048576 := Nat.le_trans (ringNew_len a0 a1).2 (by omega)
  clear w0 w1
  go_enter Try.func3, Try.ntmps3
  go_wp2_with fail
  refine (specRingNew_any a0 a1 w).mono ?_
  rintro e w1 ⟨vc1, vs1, rfl, hu1, hb1⟩
  obtain ⟨AC_1, cc1, rfl, -⟩ := (ring2 hu1.rd).1.form
  obtain ⟨AS_1, cs1, rfl, -⟩ := (ring2 hu1.rd).2.form
  have z1 : w.heap.size ≤ w1.heap.size := hb1.size
  have hB1 := hB0.trans (hb1.mono (show w.heap.size ≤ _ by omega))
  have HW := Lib.hid hu1
  generalize hwo : (ringNew a0 a1).1 = wm at hwc hws HW ⊢
  generalize hwk : (ringNew a0 a1).2 = wk
  have HWO := Lib.hid hwo
  have HWK := Lib.hid hwk
  clear hwo hwk
  go_wp2_with fail
  have hb2 := (Below.refl w1.heap.size w1).alloc (Nat.le_refl _) (.cells #[.int .i64 wm.1, .int .i64 wm.2.1, .slice AC_1 wm.2.2.1.length cc1, .slice AS_1 wm.2.2.2.length cs1] 24)
  have hXW := heap_alloc_new w1 (.cells #[.int .i64 wm.1, .int .i64 wm.2.1, .slice AC_1 wm.2.2.1.length cc1, .slice AS_1 wm.2.2.2.length cs1] 24)
  generalize w1.alloc (.cells #[.int .i64 wm.1, .int .i64 wm.2.1, .slice AC_1 wm.2.2.1.length cc1, .slice AS_1 wm.2.2.2.length cs1] 24) = w2 at hb2 hXW ⊢
  have z2 : w1.heap.size ≤ w2.heap.size := hb2.size
  have zl2 : w1.heap.size < w2.heap.size := lt_of_block hXW
  have hB2 := hB1.trans (hb2.mono (show w.heap.size ≤ _ by omega))
  replace HW := Lib.hid (HW.out.below hb2 (by omega))
  have XW := Lib.hid hXW
  clear hXW
  have XWc0 := cell_of_row _ _ 0 _ _ (0, 0) XW.out
  have XWc1 := cell_of_row _ _ 1 _ _ (0, 0) XW.out
  have XWc2 := cell_of_row _ _ 2 _ _ (0, 0) XW.out
  have XWc3 := cell_of_row _ _ 3 _ _ (0, 0) XW.out
  simp only [List.getElem?_toArray, List.getElem?_cons_zero, List.getElem?_cons_succ] at XWc0 XWc1 XWc2 XWc3
  go_wp2_with fail
  refine (implRingNew_any a0 a1 w2).mono ?_
  rintro e w3 ⟨vc3, vs3, rfl, hu3, hb3⟩
  rw [HWO.out] at hu3 ⊢
  rw [HWK.out]
  obtain ⟨AC_3, cc3, rfl, -⟩ := (ring2 hu3.rd).1.form
  obtain ⟨AS_3, cs3, rfl, -⟩ := (ring2 hu3.rd).2.form
  have z3 : w2.heap.size ≤ w3.heap.size := hb3.size
  have hB3 := hB2.trans (hb3.mono (show w.heap.size ≤ _ by omega))
  replace HW := Lib.hid (HW.out.below hb3 (by omega))
  replace XW := Lib.hid ((hb3.block _ (by omega)).trans XW.out)
  have HG := Lib.hid hu3
  clear XWc0 XWc1 XWc2 XWc3
  have XWc0 := cell_of_row _ _ 0 _ _ (0, 0) XW.out
  have XWc1 := cell_of_row _ _ 1 _ _ (0, 0) XW.out
  have XWc2 := cell_of_row _ _ 2 _ _ (0, 0) XW.out
  have XWc3 := cell_of_row _ _ 3 _ _ (0, 0) XW.out
  simp only [List.getElem?_toArray, List.getElem?_cons_zero, List.getElem?_cons_succ] at XWc0 XWc1 XWc2 XWc3
  have yy3XW : w1.heap.size < w3.heap.size := by omega
  go_wp2_with fail
  have hb4 := (Below.refl w3.heap.size w3).alloc (Nat.le_refl _) (.cells #[.int .i64 wm.1, .int .i64 wm.2.1, .slice AC_3 wm.2.2.1.length cc3, .slice AS_3 wm.2.2.2.length cs3] 24)
  have hXG := heap_alloc_new w3 (.cells #[.int .i64 wm.1, .int .i64 wm.2.1, .slice AC_3 wm.2.2.1.length cc3, .slice AS_3 wm.2.2.2.length cs3] 24)
  generalize w3.alloc (.cells #[.int .i64 wm.1, .int .i64 wm.2.1, .slice AC_3 wm.2.2.1.length cc3, .slice AS_3 wm.2.2.2.length cs3] 24) = w4 at hb4 hXG ⊢
  have z4 : w3.heap.size ≤ w4.heap.size := hb4.size
  have zl4 : w3.heap.size < w4.heap.size := lt_of_block hXG
  have hB4 := hB3.trans (hb4.mono (show w.heap.size ≤ _ by omega))
  replace HW := Lib.hid (HW.out.below hb4 (by omega))
  replace XW := Lib.hid ((hb4.block _ (by omega)).trans XW.out)
  replace HG := Lib.hid (HG.out.below hb4 (by omega))
  have XG := Lib.hid hXG
  clear hXG
  have XGc0 := cell_of_row _ _ 0 _ _ (0, 0) XG.out
  have XGc1 := cell_of_row _ _ 1 _ _ (0, 0) XG.out
  have XGc2 := cell_of_row _ _ 2 _ _ (0, 0) XG.out
  have XGc3 := cell_of_row _ _ 3 _ _ (0, 0) XG.out
  simp only [List.getElem?_toArray, List.getElem?_cons_zero, List.getElem?_cons_succ] at XGc0 XGc1 XGc2 XGc3
  go_wp2_with fail
  refine (eqRing_r HG.out.rd HW.out.rd (by omega) (by omega) hwc hws).mono ?_
  rintro e w5 ⟨rfl, hb5⟩
  have z5 : w4.heap.size ≤ w5.heap.size := hb5.size
  have hB5 := hB4.trans (hb5.mono (show w.heap.size ≤ _ by omega))
  replace HW := Lib.hid (HW.out.below hb5 (by omega))
  replace XW := Lib.hid ((hb5.block _ (by omega)).trans XW.out)
  replace HG := Lib.hid (HG.out.below hb5 (by omega))
  replace XG := Lib.hid ((hb5.block _ (by omega)).trans XG.out)
  clear XWc0 XWc1 XWc2 XWc3
  clear XGc0 XGc1 XGc2 XGc3
  have XWc0 := cell_of_row _ _ 0 _ _ (0, 0) XW.out
  have XWc1 := cell_of_row _ _ 1 _ _ (0, 0) XW.out
  have XWc2 := cell_of_row _ _ 2 _ _ (0, 0) XW.out
  have XWc3 := cell_of_row _ _ 3 _ _ (0, 0) XW.out
  simp only [List.getElem?_toArray, List.getElem?_cons_zero, List.getElem?_cons_succ] at XWc0 XWc1 XWc2 XWc3
  have XGc0 := cell_of_row _ _ 0 _ _ (0, 0) XG.out
  have XGc1 := cell_of_row _ _ 1 _ _ (0, 0) XG.out
  have XGc2 := cell_of_row _ _ 2 _ _ (0, 0) XG.out
  have XGc3 := cell_of_row _ _ 3 _ _ (0, 0) XG.out
  simp only [List.getElem?_toArray, List.getElem?_cons_zero, List.getElem?_cons_succ] at XGc0 XGc1 XGc2 XGc3
  go_wp2_with fail
  refine (markRing_r 1 (by omega) (by omega) HG.out (by omega) hwc hws).mono ?_
  rintro e w6 ⟨rfl, hmk6, ht6⟩
  have z6 : w5.heap.size ≤ w6.heap.size := ht6.size
  have hB6 := hB5.trans (ht6.below (show w.heap.size ≤ _ by omega) (by omega))
  replace HW := Lib.hid (HW.out.turned ht6 (by omega) (by omega))
  replace XW := Lib.hid ((ht6.block _ (by omega) (by omega)).trans XW.out)
  replace XG := Lib.hid ((ht6.block _ (by omega) (by omega)).trans XG.out)
  clear HG
  have HM := Lib.hid hmk6
  clear XWc0 XWc1 XWc2 XWc3
  clear XGc0 XGc1 XGc2 XGc3
  have XWc0 := cell_of_row _ _ 0 _ _ (0, 0) XW.out
  have XWc1 := cell_of_row _ _ 1 _ _ (0, 0) XW.out
  have XWc2 := cell_of_row _ _ 2 _ _ (0, 0) XW.out
  have XWc3 := cell_of_row _ _ 3 _ _ (0, 0) XW.out
  simp only [List.getElem?_toArray, List.getElem?_cons_zero, List.getElem?_cons_succ] at XWc0 XWc1 XWc2 XWc3
  have XGc0 := cell_of_row _ _ 0 _ _ (0, 0) XG.out
  have XGc1 := cell_of_row _ _ 1 _ _ (0, 0) XG.out
  have XGc2 := cell_of_row _ _ 2 _ _ (0, 0) XG.out
  have XGc3 := cell_of_row _ _ 3 _ _ (0, 0) XG.out
  simp only [List.getElem?_toArray, List.getElem?_cons_zero, List.getElem?_cons_succ] at XGc0 XGc1 XGc2 XGc3
  have kk : ¬ ((1 : Int) + (wm.2.2.1.length : Int) + (wm.2.2.2.length : Int) < 0) := by omega
  go_wp2_with fail
  refine (heldRing_r wm (by omega) (by omega) HM.out.rd (by omega) hwc hws).mono ?_
  rintro e w7 ⟨rfl, hb7⟩
  have z7 : w6.heap.size ≤ w7.heap.size := hb7.size
  have hB7 := hB6.trans (hb7.mono (show w.heap.size ≤ _ by omega))
  replace HW := Lib.hid (HW.out.below hb7 (by omega))
  replace XW := Lib.hid ((hb7.block _ (by omega)).trans XW.out)
  replace XG := Lib.hid ((hb7.block _ (by omega)).trans XG.out)
  replace HM := Lib.hid (HM.out.below hb7 (by omega))
  clear XWc0 XWc1 XWc2 XWc3
  clear XGc0 XGc1 XGc2 XGc3
  have XWc0 := cell_of_row _ _ 0 _ _ (0, 0) XW.out
  have XWc1 := cell_of_row _ _ 1 _ _ (0, 0) XW.out
  have XWc2 := cell_of_row _ _ 2 _ _ (0, 0) XW.out
  have XWc3 := cell_of_row _ _ 3 _ _ (0, 0) XW.out
  simp only [List.getElem?_toArray, List.getElem?_cons_zero, List.getElem?_cons_succ] at XWc0 XWc1 XWc2 XWc3
  have XGc0 := cell_of_row _ _ 0 _ _ (0, 0) XG.out
  have XGc1 := cell_of_row _ _ 1 _ _ (0, 0) XG.out
  have XGc2 := cell_of_row _ _ 2 _ _ (0, 0) XG.out
  have XGc3 := cell_of_row _ _ 3 _ _ (0, 0) XG.out
  simp only [List.getElem?_toArray, List.getElem?_cons_zero, List.getElem?_cons_succ] at XGc0 XGc1 XGc2 XGc3
  go_wp2_with fail
  refine (implRingNew_any a0 a1 w7).mono ?_
  rintro e w8 ⟨vc8, vs8, rfl, hu8, hb8⟩
  rw [HWO.out] at hu8 ⊢
  rw [HWK.out]
  obtain ⟨AC_8, cc8, rfl, -⟩ := (ring2 hu8.rd).1.form
  obtain ⟨AS_8, cs8, rfl, -⟩ := (ring2 hu8.rd).2.form
  have z8 : w7.heap.size ≤ w8.heap.size := hb8.size
  have hB8 := hB7.trans (hb8.mono (show w.heap.size ≤ _ by omega))
  replace HW := Lib.hid (HW.out.below hb8 (by omega))
  replace XW := Lib.hid ((hb8.block _ (by omega)).trans XW.out)
  replace XG := Lib.hid ((hb8.block _ (by omega)).trans XG.out)
  replace HM := Lib.hid (HM.out.below hb8 (by omega))
  have HH := Lib.hid hu8
  clear XWc0 XWc1 XWc2 XWc3
  clear XGc0 XGc1 XGc2 XGc3
  have XWc0 := cell_of_row _ _ 0 _ _ (0, 0) XW.out
  have XWc1 := cell_of_row _ _ 1 _ _ (0, 0) XW.out
  have XWc2 := cell_of_row _ _ 2 _ _ (0, 0) XW.out
  have XWc3 := cell_of_row _ _ 3 _ _ (0, 0) XW.out
  simp only [List.getElem?_toArray, List.getElem?_cons_zero, List.getElem?_cons_succ] at XWc0 XWc1 XWc2 XWc3
  have XGc0 := cell_of_row _ _ 0 _ _ (0, 0) XG.out
  have XGc1 := cell_of_row _ _ 1 _ _ (0, 0) XG.out
  have XGc2 := cell_of_row _ _ 2 _ _ (0, 0) XG.out
  have XGc3 := cell_of_row _ _ 3 _ _ (0, 0) XG.out
  simp only [List.getElem?_toArray, List.getElem?_cons_zero, List.getElem?_cons_succ] at XGc0 XGc1 XGc2 XGc3
  have yy8XW : w1.heap.size < w8.heap.size := by omega
  have yy8XG : w3.heap.size < w8.heap.size := by omega
  go_wp2_with fail
  have hb9 := (Below.refl w8.heap.size w8).alloc (Nat.le_refl _) (.cells #[.int .i64 wm.1, .int .i64 wm.2.1, .slice AC_8 wm.2.2.1.length cc8, .slice AS_8 wm.2.2.2.length cs8] 24)
  have hXH := heap_alloc_new w8 (.cells #[.int .i64 wm.1, .int .i64 wm.2.1, .slice AC_8 wm.2.2.1.length cc8, .slice AS_8 wm.2.2.2.length cs8] 24)
  generalize w8.alloc (.cells #[.int .i64 wm.1, .int .i64 wm.2.1, .slice AC_8 wm.2.2.1.length cc8, .slice AS_8 wm.2.2.2.length cs8] 24) = w9 at hb9 hXH ⊢
  have z9 : w8.heap.size ≤ w9.heap.size := hb9.size
  have zl9 : w8.heap.size < w9.heap.size := lt_of_block hXH
  have hB9 := hB8.trans (hb9.mono (show w.heap.size ≤ _ by omega))
  replace HW := Lib.hid (HW.out.below hb9 (by omega))
  replace XW := Lib.hid ((hb9.block _ (by omega)).trans XW.out)
  replace XG := Lib.hid ((hb9.block _ (by omega)).trans XG.out)
  replace HM := Lib.hid (HM.out.below hb9 (by omega))
  replace HH := Lib.hid (HH.out.below hb9 (by omega))
  have XH := Lib.hid hXH
  clear hXH
  have XHc0 := cell_of_row _ _ 0 _ _ (0, 0) XH.out
  have XHc1 := cell_of_row _ _ 1 _ _ (0, 0) XH.out
  have XHc2 := cell_of_row _ _ 2 _ _ (0, 0) XH.out
  have XHc3 := cell_of_row _ _ 3 _ _ (0, 0) XH.out
  simp only [List.getElem?_toArray, List.getElem?_cons_zero, List.getElem?_cons_succ] at XHc0 XHc1 XHc2 XHc3
  go_wp2_with fail
  refine (eqRing_r HH.out.rd HW.out.rd (by omega) (by omega) hwc hws).mono ?_
  rintro e w10 ⟨rfl, hb10⟩
  have z10 : w9.heap.size ≤ w10.heap.size := hb10.size
  have hB10 := hB9.trans (hb10.mono (show w.heap.size ≤ _ by omega))
  replace HW := Lib.hid (HW.out.below hb10 (by omega))
  replace XW := Lib.hid ((hb10.block _ (by omega)).trans XW.out)
  replace XG := Lib.hid ((hb10.block _ (by omega)).trans XG.out)
  replace HM := Lib.hid (HM.out.below hb10 (by omega))
  replace HH := Lib.hid (HH.out.below hb10 (by omega))
  replace XH := Lib.hid ((hb10.block _ (by omega)).trans XH.out)
  clear XWc0 XWc1 XWc2 XWc3
  clear XGc0 XGc1 XGc2 XGc3
  clear XHc0 XHc1 XHc2 XHc3
  have XWc0 := cell_of_row _ _ 0 _ _ (0, 0) XW.out
  have XWc1 := cell_of_row _ _ 1 _ _ (0, 0) XW.out
  have XWc2 := cell_of_row _ _ 2 _ _ (0, 0) XW.out
  have XWc3 := cell_of_row _ _ 3 _ _ (0, 0) XW.out
  simp only [List.getElem?_toArray, List.getElem?_cons_zero, List.getElem?_cons_succ] at XWc0 XWc1 XWc2 XWc3
  have XGc0 := cell_of_row _ _ 0 _ _ (0, 0) XG.out
  have XGc1 := cell_of_row _ _ 1 _ _ (0, 0) XG.out
  have XGc2 := cell_of_row _ _ 2 _ _ (0, 0) XG.out
  have XGc3 := cell_of_row _ _ 3 _ _ (0, 0) XG.out
  simp only [List.getElem?_toArray, List.getElem?_cons_zero, List.getElem?_cons_succ] at XGc0 XGc1 XGc2 XGc3
  have XHc0 := cell_of_row _ _ 0 _ _ (0, 0) XH.out
  have XHc1 := cell_of_row _ _ 1 _ _ (0, 0) XH.out
  have XHc2 := cell_of_row _ _ 2 _ _ (0, 0) XH.out
  have XHc3 := cell_of_row _ _ 3 _ _ (0, 0) XH.out
  simp only [List.getElem?_toArray, List.getElem?_cons_zero, List.getElem?_cons_succ] at XHc0 XHc1 XHc2 XHc3
  go_wp2_with fail
  refine (heldRing_r wm (by omega) (by omega) HM.out.rd (by omega) hwc hws).mono ?_
  rintro e w11 ⟨rfl, hb11⟩
  have z11 : w10.heap.size ≤ w11.heap.size := hb11.size
  have hB11 := hB10.trans (hb11.mono (show w.heap.size ≤ _ by omega))
  replace HW := Lib.hid (HW.out.below hb11 (by omega))
  replace XW := Lib.hid ((hb11.block _ (by omega)).trans XW.out)
  replace XG := Lib.hid ((hb11.block _ (by omega)).trans XG.out)
  replace HM := Lib.hid (HM.out.below hb11 (by omega))
  replace HH := Lib.hid (HH.out.below hb11 (by omega))
  replace XH := Lib.hid ((hb11.block _ (by omega)).trans XH.out)
  clear XWc0 XWc1 XWc2 XWc3
  clear XGc0 XGc1 XGc2 XGc3
  clear XHc0 XHc1 XHc2 XHc3
  have XWc0 := cell_of_row _ _ 0 _ _ (0, 0) XW.out
  have XWc1 := cell_of_row _ _ 1 _ _ (0, 0) XW.out
  have XWc2 := cell_of_row _ _ 2 _ _ (0, 0) XW.out
  have XWc3 := cell_of_row _ _ 3 _ _ (0, 0) XW.out
  simp only [List.getElem?_toArray, List.getElem?_cons_zero, List.getElem?_cons_succ] at XWc0 XWc1 XWc2 XWc3
  have XGc0 := cell_of_row _ _ 0 _ _ (0, 0) XG.out
  have XGc1 := cell_of_row _ _ 1 _ _ (0, 0) XG.out
  have XGc2 := cell_of_row _ _ 2 _ _ (0, 0) XG.out
  have XGc3 := cell_of_row _ _ 3 _ _ (0, 0) XG.out
  simp only [List.getElem?_toArray, List.getElem?_cons_zero, List.getElem?_cons_succ] at XGc0 XGc1 XGc2 XGc3
  have XHc0 := cell_of_row _ _ 0 _ _ (0, 0) XH.out
  have XHc1 := cell_of_row _ _ 1 _ _ (0, 0) XH.out
  have XHc2 := cell_of_row _ _ 2 _ _ (0, 0) XH.out
  have XHc3 := cell_of_row _ _ 3 _ _ (0, 0) XH.out
  simp only [List.getElem?_toArray, List.getElem?_cons_zero, List.getElem?_cons_succ] at XHc0 XHc1 XHc2 XHc3
  go_wp2
  go_ret
  exact ⟨rfl, (HB0.out.trans (hB11.mono (by omega)))⟩


set_option maxRecDepth 100000 in
theorem laidOut : laidOutB Try.prog = true := by kernel_rfl
set_option maxRecDepth 100000 in
theorem rowed : allRowed Try.prog Try.f3.params.toList = true := by kernel_rfl
set_option maxRecDepth 100000 in
theorem resT : Try.f3.resultTypes = #[4] := by kernel_rfl
set_option maxRecDepth 100000 in
theorem lifted (os : Os) (started : os.Started) (H : Type) (enc : TypeId × Value → H) :
    ReturnsInHanded {} Try.checked os 3 .any (Rows.fnExactRingNewSpec.pre6 enc Try.prog Try.f3 Rows.fnExactRingNewRow.domain false) (Rows.fnExactRingNewSpec.post enc Try.prog Try.f3 false true false false) := by
  refine returnsInHanded_of_change (C := Try.checked) own started (by kernel_rfl) Try.func3
    (ChangeSpec.witness6 (enc := enc) (C := Try.checked) false ⟨#[], #[.int .i64 0, .int .i64 0], []⟩ 8 (by kernel_rfl) (by kernel_rfl) (by kernel_rfl) (by kernel_rfl)) ?_
  intro W base args ds gs before hval0 hW hcnd _
  have hval : ∀ (j : Nat) t v, Try.f3.params[j]? = some t → args[j]? = some v → Value.okWide Try.prog W .any base t v := hval0
  have hW' := hW
  obtain ⟨p, q, hA0, hV, rfl, hfz, hnd⟩ := hW
  have hA : DataW.TrodAll enc Try.prog W 0 (fun _ => true) true Try.f3.params.toList args.toList ds p := hA0
  rw [Try.params3] at hA hval
  obtain ⟨v0, vs0, d0, ds0, p0, q0, hargs, rfl, rfl, h0, r0⟩ := trodAll_cons hA
  obtain ⟨v1, vs1, d1, ds1, p1, q1, rfl, rfl, rfl, h1, r1⟩ := trodAll_cons r0
  obtain ⟨rfl, rfl, rfl⟩ := trodAll_nil r1
  obtain rfl : args = #[v0, v1] := by cases args; simp_all
  obtain ⟨rfl, rfl⟩ := trodVars_none hV
  obtain ⟨a0, rfl, rfl, rfl, w0⟩ := open_int Try.underlying3 (hval 0 3 v0 rfl rfl) h0
  obtain ⟨a1, rfl, rfl, rfl, w1⟩ := open_int Try.underlying3 (hval 1 3 v1 rfl rfl) h1
  clear hA0 hval0
  refine (walk W  _ _ w0 w1).mono fun e W' ⟨he, hg⟩ => ?_
  subst he
  exact ⟨_, rfl, post_true laidOut rowed hW' rfl resT Try.underlying4 hg (pv := []) rfl⟩

set_option maxRecDepth 100000 in
theorem over : Rows.fnExactRingNewRow.holds Try.pinned (OpenSpec.ofChange Rows.fnExactRingNewSpec) :=
  OpenClaim.holds_of_wide 3 Try.f3 rfl rfl rfl rfl rfl rfl rfl ⟨rfl, rfl, rfl, rfl, rfl⟩ rfl rfl rfl rfl rfl (by kernel_rfl) Try.func3 (by kernel_rfl)
    (of_decide_eq_true (by kernel_rfl)) (by unfold Func.isWrapper; first | (rw [if_pos (by decide +kernel)]; kernel_rfl) | (rw [if_neg (by decide +kernel)]; exact ⟨rfl, rfl⟩))
    (fun os started H enc _ => lifted os started H enc)

set_option maxRecDepth 100000 in
theorem proved : Rows.FnExactRingNewSaid :=
  over
#print axioms proved
end Go.Proofs.Yteogdfiaobccfaa.fnExactRingNew
