/- FnExactRingAdd: for every argument the law answers true: the program's function returns what the reference returns; the listed package variables hold what the program's text lays (tied). -/
import Derived.Test.YteogdfiaobccfaaDoorPost
import Derived.Test.YteogdfiaobccfaaDoorRingT
import Derived.Test.YteogdfiaobccfaaDoorCards
import Derived.Test.YteogdfiaobccfaaDoorTie
import Derived.Stop.LaidErr
import Derived.LaidMore
import Derived.Stop.Joined
import Derived.SevenTiedAt
import Derived.WalkSmall
import Derived.LaidHandle
import Derived.Test.YteogdfiaobccfaaDoorRingA
import Derived.Test.YteogdfiaobccfaaDoorRingH
import Derived.Test.YteogdfiaobccfaaDoorRingAI
import Derived.Deep.RegionHeld3
namespace Go.Proofs.YteogdfiaobccfaaDoor.fnExactRingAdd
open Go.ChangeShapes Go.WideShapes Go.ChangeAt Go.RowKit
open Go.WideMaps Go.WideElems
open Go.ChangeMaps (open_string shut_string)
set_option linter.unusedVariables false

set_option maxRecDepth 100000 in
theorem own : ownKnob Tryd.prog.godebug = none := by kernel_rfl

set_option maxRecDepth 100000 in
set_option maxHeartbeats 8000000 in
theorem walk (w : World) (p0 : Addr) (hc0 : w.cell? ⟨0, 0, none⟩ = some (.iface 111 (.pointer (some p0)))) (hh : w.cell? ⟨1, 0, none⟩ = some (.iface 98 (.agg #[.pointer (some ⟨2, 76, none⟩)]))) (m0 : RingD) (uc0 us0 : Value) (a1 : Int) (a2 : Int) (w0 : rd .i64 w.heap.size w uc0 m0.2.2.1) (z0 : rd .i64 w.heap.size w us0 m0.2.2.2) (n0 : (Lit.int .i64 m0.1).wf = true ∧ (Lit.int .i64 m0.2.1).wf = true) (y0 : (m0.2.2.1.length ≤ maxLen ∧ ∀ x ∈ m0.2.2.1, (Lit.int .i64 x).wf = true) ∧ (m0.2.2.2.length ≤ maxLen ∧ ∀ x ∈ m0.2.2.2, (Lit.int .i64 x).wf = true)) (w1 : (Lit.int .i64 a1).wf = true) (w2 : (Lit.int .i64 a2).wf = true) :
    Calls Tryd.prog 4 #[.agg #[.int .i64 m0.1, .int .i64 m0.2.1, uc0, us0], .int .i64 a1, .int .i64 a2] w fun e w' => e = .returned (.bool true) ∧ Below w.heap.size w w' := by
  obtain ⟨AC0, cC0, rfl, -⟩ := w0.form
  obtain ⟨AS0, cS0, rfl, -⟩ := z0.form
  have HM0 := Lib.hid (ring_mk w0 z0)
  have HNC0 : Hid (m0.2.2.1.length ≤ maxLen) := Lib.hid y0.1.1
  have HNS0 : Hid (m0.2.2.2.length ≤ maxLen) := Lib.hid y0.2.1
  have HB0 : Hid (Below w.heap.size w (w.alloc (.cells #[.int .i64 m0.1, .int .i64 m0.2.1, .slice AC0 m0.2.2.1.length cC0, .slice AS0 m0.2.2.2.length cS0] 36))) := Lib.hid ((Below.refl w.heap.size w).alloc (Nat.le_refl _) (.cells #[.int .i64 m0.1, .int .i64 m0.2.1, .slice AC0 m0.2.2.1.length cC0, .slice AS0 m0.2.2.2.length cS0] 36))
  have HX : Hid (∀ wr, Below (w.heap.size + 1) (w.alloc (.cells #[.int .i64 m0.1, .int .i64 m0.2.1, .slice AC0 m0.2.2.1.length cC0, .slice AS0 m0.2.2.2.length cS0] 36)) wr → wr.cell? ⟨w.heap.size, 0, none⟩ = some (.int .i64 m0.1) ∧ wr.cell? ⟨w.heap.size, 1, none⟩ = some (.int .i64 m0.2.1) ∧ wr.cell? ⟨w.heap.size, 2, none⟩ = some (.slice AC0 m0.2.2.1.length cC0) ∧ wr.cell? ⟨w.heap.size, 3, none⟩ = some (.slice AS0 m0.2.2.2.length cS0)) := Lib.hid fun wr hw => ⟨(hw.cell (p := ⟨w.heap.size, 0, none⟩) (show w.heap.size < _ by omega)).trans (by simp), (hw.cell (p := ⟨w.heap.size, 1, none⟩) (show w.heap.size < _ by omega)).trans (by simp), (hw.cell (p := ⟨w.heap.size, 2, none⟩) (show w.heap.size < _ by omega)).trans (by simp), (hw.cell (p := ⟨w.heap.size, 3, none⟩) (show w.heap.size < _ by omega)).trans (by simp)⟩
  clear w0 z0 n0 y0
  have HHD : Hid (Handle w) := Lib.hid hh
  clear hh
  go_enter Tryd.func4, Tryd.ntmps4
  go_wp2_with fail
  replace HM0 := Lib.hid (Rep.below (R := RingR) HM0.out HB0.out (Nat.le_refl _))
  refine (szRing_r HM0.out HNC0.out HNS0.out (by omega) (by omega)).mono ?_
  rintro e w1 ⟨r0, rfl, hr0, hb1⟩
  have z1 : w.heap.size + 1 ≤ w1.heap.size := by have := hb1.size; simp at this; omega
  have hB1 : Below (w.heap.size + 1) (w.alloc (.cells #[.int .i64 m0.1, .int .i64 m0.2.1, .slice AC0 m0.2.2.1.length cC0, .slice AS0 m0.2.2.2.length cS0] 36)) w1 := hb1.mono (by simp <;> omega)
  rcases hr0 with rfl | ⟨hr0, hp0⟩
  · go_wp2
    go_ret
    exact ⟨rfl, (HB0.out.trans (hB1.mono (by omega)))⟩
  have hlc0 : m0.2.2.1.length ≤ 1048576 := by unfold ringSz at hr0; omega
  have hls0 : m0.2.2.2.length ≤ 1048576 := by unfold ringSz at hr0; omega
  have hq0 : r0 ≤ 1048576 := by unfold ringSz at hr0; omega
  replace HM0 := Lib.hid (Rep.below (R := RingR) HM0.out (hB1.mono (by omega)) (Nat.le_refl _))
  obtain ⟨x0, x1, x2, x3⟩ := HX.out w1 hB1
  have HR0 := Lib.hid hr0
  clear hr0 hb1
  have hwc : (ringAdd m0 a1 a2).2.2.1.length ≤ 1048576 := by rw [ringAdd_lc m0 a1 a2]; exact hlc0
  have hws : (ringAdd m0 a1 a2).2.2.2.length ≤ 1048576 := by rw [ringAdd_ls m0 a1 a2]; exact hls0
  go_wp2_with fail
  refine (toRing_r HM0.out (by omega) hlc0 hls0).mono ?_
  rintro e w2 ⟨vc2, vs2, rfl, hu2, hb2⟩
  obtain ⟨AC_2, cc2, rfl, -⟩ := (ring2 hu2.rd).1.form
  obtain ⟨AS_2, cs2, rfl, -⟩ := (ring2 hu2.rd).2.form
  have z2 : w1.heap.size ≤ w2.heap.size := hb2.size
  have hB2 := hB1.trans (hb2.mono (show w.heap.size + 1 ≤ _ by omega))
  replace HM0 := Lib.hid (Rep.below (R := RingR) HM0.out hb2 (by omega))
  have H2 := Lib.hid hu2
  clear x0 x1 x2 x3
  obtain ⟨x0, x1, x2, x3⟩ := HX.out w2 hB2
  go_wp2_with fail
  refine (specRingAdd_any _ _ _ m0 a1 a2 w2 (ring2 H2.out.rd).1 (ring2 H2.out.rd).2 (by omega) hlc0 hls0).mono ?_
  rintro e w3 ⟨vc3, vs3, rfl, hu3, hb3⟩
  obtain ⟨AC_3, cc3, rfl, -⟩ := (ring2 hu3.rd).1.form
  obtain ⟨AS_3, cs3, rfl, -⟩ := (ring2 hu3.rd).2.form
  have z3 : w2.heap.size ≤ w3.heap.size := hb3.size
  have hB3 := hB2.trans (hb3.mono (show w.heap.size + 1 ≤ _ by omega))
  replace HM0 := Lib.hid (Rep.below (R := RingR) HM0.out hb3 (by omega))
  replace H2 := Lib.hid (H2.out.below hb3 (by omega))
  have HW := Lib.hid hu3
  clear x0 x1 x2 x3
  obtain ⟨x0, x1, x2, x3⟩ := HX.out w3 hB3
  clear H2
  generalize hwo : ringAdd m0 a1 a2 = wm at hwc hws HW ⊢
  have HWO := Lib.hid hwo
  clear hwo
  have yy3_0 : w.heap.size < w3.heap.size := by omega
  go_wp2_with fail
  have hb4 := (Below.refl w3.heap.size w3).alloc (Nat.le_refl _) (.cells #[.int .i64 wm.1, .int .i64 wm.2.1, .slice AC_3 wm.2.2.1.length cc3, .slice AS_3 wm.2.2.2.length cs3] 27)
  have hXW := heap_alloc_new w3 (.cells #[.int .i64 wm.1, .int .i64 wm.2.1, .slice AC_3 wm.2.2.1.length cc3, .slice AS_3 wm.2.2.2.length cs3] 27)
  generalize w3.alloc (.cells #[.int .i64 wm.1, .int .i64 wm.2.1, .slice AC_3 wm.2.2.1.length cc3, .slice AS_3 wm.2.2.2.length cs3] 27) = w4 at hb4 hXW ⊢
  have z4 : w3.heap.size ≤ w4.heap.size := hb4.size
  have zl4 : w3.heap.size < w4.heap.size := lt_of_block hXW
  have hB4 := hB3.trans (hb4.mono (show w.heap.size + 1 ≤ _ by omega))
  replace HM0 := Lib.hid (Rep.below (R := RingR) HM0.out hb4 (by omega))
  replace HW := Lib.hid (HW.out.below hb4 (by omega))
  have XW := Lib.hid hXW
  clear hXW
  clear x0 x1 x2 x3
  obtain ⟨x0, x1, x2, x3⟩ := HX.out w4 hB4
  have XWc0 := cell_of_row _ _ 0 _ _ (0, 0) XW.out
  have XWc1 := cell_of_row _ _ 1 _ _ (0, 0) XW.out
  have XWc2 := cell_of_row _ _ 2 _ _ (0, 0) XW.out
  have XWc3 := cell_of_row _ _ 3 _ _ (0, 0) XW.out
  simp only [List.getElem?_toArray, List.getElem?_cons_zero, List.getElem?_cons_succ] at XWc0 XWc1 XWc2 XWc3
  go_wp2_with fail
  refine (toRing_r HM0.out (by omega) hlc0 hls0).mono ?_
  rintro e w5 ⟨vc5, vs5, rfl, hu5, hb5⟩
  obtain ⟨AC_5, cc5, rfl, -⟩ := (ring2 hu5.rd).1.form
  obtain ⟨AS_5, cs5, rfl, -⟩ := (ring2 hu5.rd).2.form
  have z5 : w4.heap.size ≤ w5.heap.size := hb5.size
  have hB5 := hB4.trans (hb5.mono (show w.heap.size + 1 ≤ _ by omega))
  replace HM0 := Lib.hid (Rep.below (R := RingR) HM0.out hb5 (by omega))
  replace HW := Lib.hid (HW.out.below hb5 (by omega))
  replace XW := Lib.hid ((hb5.block _ (by omega)).trans XW.out)
  have H4 := Lib.hid hu5
  clear x0 x1 x2 x3
  obtain ⟨x0, x1, x2, x3⟩ := HX.out w5 hB5
  clear XWc0 XWc1 XWc2 XWc3
  have XWc0 := cell_of_row _ _ 0 _ _ (0, 0) XW.out
  have XWc1 := cell_of_row _ _ 1 _ _ (0, 0) XW.out
  have XWc2 := cell_of_row _ _ 2 _ _ (0, 0) XW.out
  have XWc3 := cell_of_row _ _ 3 _ _ (0, 0) XW.out
  simp only [List.getElem?_toArray, List.getElem?_cons_zero, List.getElem?_cons_succ] at XWc0 XWc1 XWc2 XWc3
  have yy5_0 : w.heap.size < w5.heap.size := by omega
  have yy5XW : w3.heap.size < w5.heap.size := by omega
  go_wp2_with fail
  have hb6 := (Below.refl w5.heap.size w5).alloc (Nat.le_refl _) (.cells #[.int .i64 m0.1, .int .i64 m0.2.1, .slice AC_5 m0.2.2.1.length cc5, .slice AS_5 m0.2.2.2.length cs5] 27)
  have hX4 := heap_alloc_new w5 (.cells #[.int .i64 m0.1, .int .i64 m0.2.1, .slice AC_5 m0.2.2.1.length cc5, .slice AS_5 m0.2.2.2.length cs5] 27)
  generalize w5.alloc (.cells #[.int .i64 m0.1, .int .i64 m0.2.1, .slice AC_5 m0.2.2.1.length cc5, .slice AS_5 m0.2.2.2.length cs5] 27) = w6 at hb6 hX4 ⊢
  have z6 : w5.heap.size ≤ w6.heap.size := hb6.size
  have zl6 : w5.heap.size < w6.heap.size := lt_of_block hX4
  have hB6 := hB5.trans (hb6.mono (show w.heap.size + 1 ≤ _ by omega))
  replace HM0 := Lib.hid (Rep.below (R := RingR) HM0.out hb6 (by omega))
  replace HW := Lib.hid (HW.out.below hb6 (by omega))
  replace XW := Lib.hid ((hb6.block _ (by omega)).trans XW.out)
  replace H4 := Lib.hid (H4.out.below hb6 (by omega))
  have X4 := Lib.hid hX4
  clear hX4
  clear x0 x1 x2 x3
  obtain ⟨x0, x1, x2, x3⟩ := HX.out w6 hB6
  have X4c0 := cell_of_row _ _ 0 _ _ (0, 0) X4.out
  have X4c1 := cell_of_row _ _ 1 _ _ (0, 0) X4.out
  have X4c2 := cell_of_row _ _ 2 _ _ (0, 0) X4.out
  have X4c3 := cell_of_row _ _ 3 _ _ (0, 0) X4.out
  simp only [List.getElem?_toArray, List.getElem?_cons_zero, List.getElem?_cons_succ] at X4c0 X4c1 X4c2 X4c3
  go_wp2_with fail
  refine (implRingAdd_any _ _ _ m0 a1 a2 w6 (HHD.out.below (HB0.out.trans (hB6.mono (by omega))) (Nat.le_refl _)) (ring2 H4.out.rd).1 (ring2 H4.out.rd).2 (by omega) hlc0 hls0).mono ?_
  rintro e w7 ⟨vc7, vs7, rfl, hu7, hb7⟩
  rw [HWO.out] at hu7 ⊢
  obtain ⟨AC_7, cc7, rfl, -⟩ := (ring2 hu7.rd).1.form
  obtain ⟨AS_7, cs7, rfl, -⟩ := (ring2 hu7.rd).2.form
  have z7 : w6.heap.size ≤ w7.heap.size := hb7.size
  have hB7 := hB6.trans (hb7.mono (show w.heap.size + 1 ≤ _ by omega))
  replace HM0 := Lib.hid (Rep.below (R := RingR) HM0.out hb7 (by omega))
  replace HW := Lib.hid (HW.out.below hb7 (by omega))
  replace XW := Lib.hid ((hb7.block _ (by omega)).trans XW.out)
  replace H4 := Lib.hid (H4.out.below hb7 (by omega))
  replace X4 := Lib.hid ((hb7.block _ (by omega)).trans X4.out)
  have HG := Lib.hid hu7
  clear x0 x1 x2 x3
  obtain ⟨x0, x1, x2, x3⟩ := HX.out w7 hB7
  clear XWc0 XWc1 XWc2 XWc3
  clear X4c0 X4c1 X4c2 X4c3
  have XWc0 := cell_of_row _ _ 0 _ _ (0, 0) XW.out
  have XWc1 := cell_of_row _ _ 1 _ _ (0, 0) XW.out
  have XWc2 := cell_of_row _ _ 2 _ _ (0, 0) XW.out
  have XWc3 := cell_of_row _ _ 3 _ _ (0, 0) XW.out
  simp only [List.getElem?_toArray, List.getElem?_cons_zero, List.getElem?_cons_succ] at XWc0 XWc1 XWc2 XWc3
  have X4c0 := cell_of_row _ _ 0 _ _ (0, 0) X4.out
  have X4c1 := cell_of_row _ _ 1 _ _ (0, 0) X4.out
  have X4c2 := cell_of_row _ _ 2 _ _ (0, 0) X4.out
  have X4c3 := cell_of_row _ _ 3 _ _ (0, 0) X4.out
  simp only [List.getElem?_toArray, List.getElem?_cons_zero, List.getElem?_cons_succ] at X4c0 X4c1 X4c2 X4c3
  have yy7_0 : w.heap.size < w7.heap.size := by omega
  have yy7XW : w3.heap.size < w7.heap.size := by omega
  have yy7X4 : w5.heap.size < w7.heap.size := by omega
  go_wp2_with fail
  have hb8 := (Below.refl w7.heap.size w7).alloc (Nat.le_refl _) (.cells #[.int .i64 wm.1, .int .i64 wm.2.1, .slice AC_7 wm.2.2.1.length cc7, .slice AS_7 wm.2.2.2.length cs7] 27)
  have hXG := heap_alloc_new w7 (.cells #[.int .i64 wm.1, .int .i64 wm.2.1, .slice AC_7 wm.2.2.1.length cc7, .slice AS_7 wm.2.2.2.length cs7] 27)
  generalize w7.alloc (.cells #[.int .i64 wm.1, .int .i64 wm.2.1, .slice AC_7 wm.2.2.1.length cc7, .slice AS_7 wm.2.2.2.length cs7] 27) = w8 at hb8 hXG ⊢
  have z8 : w7.heap.size ≤ w8.heap.size := hb8.size
  have zl8 : w7.heap.size < w8.heap.size := lt_of_block hXG
  have hB8 := hB7.trans (hb8.mono (show w.heap.size + 1 ≤ _ by omega))
  replace HM0 := Lib.hid (Rep.below (R := RingR) HM0.out hb8 (by omega))
  replace HW := Lib.hid (HW.out.below hb8 (by omega))
  replace XW := Lib.hid ((hb8.block _ (by omega)).trans XW.out)
  replace H4 := Lib.hid (H4.out.below hb8 (by omega))
  replace X4 := Lib.hid ((hb8.block _ (by omega)).trans X4.out)
  replace HG := Lib.hid (HG.out.below hb8 (by omega))
  have XG := Lib.hid hXG
  clear hXG
  clear x0 x1 x2 x3
  obtain ⟨x0, x1, x2, x3⟩ := HX.out w8 hB8
  have XGc0 := cell_of_row _ _ 0 _ _ (0, 0) XG.out
  have XGc1 := cell_of_row _ _ 1 _ _ (0, 0) XG.out
  have XGc2 := cell_of_row _ _ 2 _ _ (0, 0) XG.out
  have XGc3 := cell_of_row _ _ 3 _ _ (0, 0) XG.out
  simp only [List.getElem?_toArray, List.getElem?_cons_zero, List.getElem?_cons_succ] at XGc0 XGc1 XGc2 XGc3
  go_wp2_with fail
  refine (eqRing_r HG.out.rd HW.out.rd (by omega) (by omega) hwc hws).mono ?_
  rintro e w9 ⟨rfl, hb9⟩
  have z9 : w8.heap.size ≤ w9.heap.size := hb9.size
  have hB9 := hB8.trans (hb9.mono (show w.heap.size + 1 ≤ _ by omega))
  replace HM0 := Lib.hid (Rep.below (R := RingR) HM0.out hb9 (by omega))
  replace HW := Lib.hid (HW.out.below hb9 (by omega))
  replace XW := Lib.hid ((hb9.block _ (by omega)).trans XW.out)
  replace H4 := Lib.hid (H4.out.below hb9 (by omega))
  replace X4 := Lib.hid ((hb9.block _ (by omega)).trans X4.out)
  replace HG := Lib.hid (HG.out.below hb9 (by omega))
  replace XG := Lib.hid ((hb9.block _ (by omega)).trans XG.out)
  clear x0 x1 x2 x3
  obtain ⟨x0, x1, x2, x3⟩ := HX.out w9 hB9
  clear XWc0 XWc1 XWc2 XWc3
  clear X4c0 X4c1 X4c2 X4c3
  clear XGc0 XGc1 XGc2 XGc3
  have XWc0 := cell_of_row _ _ 0 _ _ (0, 0) XW.out
  have XWc1 := cell_of_row _ _ 1 _ _ (0, 0) XW.out
  have XWc2 := cell_of_row _ _ 2 _ _ (0, 0) XW.out
  have XWc3 := cell_of_row _ _ 3 _ _ (0, 0) XW.out
  simp only [List.getElem?_toArray, List.getElem?_cons_zero, List.getElem?_cons_succ] at XWc0 XWc1 XWc2 XWc3
  have X4c0 := cell_of_row _ _ 0 _ _ (0, 0) X4.out
  have X4c1 := cell_of_row _ _ 1 _ _ (0, 0) X4.out
  have X4c2 := cell_of_row _ _ 2 _ _ (0, 0) X4.out
  have X4c3 := cell_of_row _ _ 3 _ _ (0, 0) X4.out
  simp only [List.getElem?_toArray, List.getElem?_cons_zero, List.getElem?_cons_succ] at X4c0 X4c1 X4c2 X4c3
  have XGc0 := cell_of_row _ _ 0 _ _ (0, 0) XG.out
  have XGc1 := cell_of_row _ _ 1 _ _ (0, 0) XG.out
  have XGc2 := cell_of_row _ _ 2 _ _ (0, 0) XG.out
  have XGc3 := cell_of_row _ _ 3 _ _ (0, 0) XG.out
  simp only [List.getElem?_toArray, List.getElem?_cons_zero, List.getElem?_cons_succ] at XGc0 XGc1 XGc2 XGc3
  go_wp2
  have hD : Below w9.heap.size w9 w9.drew := (Below.refl _ _).drew
  have zD : w9.drew.heap.size = w9.heap.size := rfl
  go_region_held3 (fun V => V.cell? ⟨w5.heap.size, 0, none⟩ = some (.int .i64 m0.1) ∧ V.cell? ⟨w5.heap.size, 1, none⟩ = some (.int .i64 m0.2.1) ∧ V.cell? ⟨w5.heap.size, 2, none⟩ = some (.slice AC_5 m0.2.2.1.length cc5) ∧ V.cell? ⟨w5.heap.size, 3, none⟩ = some (.slice AS_5 m0.2.2.2.length cs5) ∧ V.cell? ⟨w.heap.size, 0, none⟩ = some (.int .i64 m0.1) ∧ V.cell? ⟨w.heap.size, 1, none⟩ = some (.int .i64 m0.2.1) ∧ V.cell? ⟨w.heap.size, 2, none⟩ = some (.slice AC0 m0.2.2.1.length cC0) ∧ V.cell? ⟨w.heap.size, 3, none⟩ = some (.slice AS0 m0.2.2.2.length cS0)) (go_keep) (first | (go_at_call 17; refine (toRing_r (r := m0) (w := w9.drew) (Rep.below (R := RingR) HM0.out hD (by omega)) (show w.heap.size ≤ w9.heap.size by omega) hlc0 hls0).mono ?_; rintro e w10 ⟨vcq, vsq, rfl, huq, hbq⟩; obtain ⟨ACq, ccq, rfl, -⟩ := (ring2 huq.rd).1.form; obtain ⟨ASq, csq, rfl, -⟩ := (ring2 huq.rd).2.form; have hbq : Below w9.heap.size w9.drew w10 := hbq; have huq : RingR.mine w9.heap.size w10.heap.size w10 [.int .i64 m0.1, .int .i64 m0.2.1, .slice ACq m0.2.2.1.length ccq, .slice ASq m0.2.2.2.length csq] m0 := huq; have zq : w9.heap.size ≤ w10.heap.size := hbq.size; have qa0 := (hbq.cell (p := ⟨w5.heap.size, 0, none⟩) (show w5.heap.size < _ by omega)).trans X4c0; have qa1 := (hbq.cell (p := ⟨w5.heap.size, 1, none⟩) (show w5.heap.size < _ by omega)).trans X4c1; have qa2 := (hbq.cell (p := ⟨w5.heap.size, 2, none⟩) (show w5.heap.size < _ by omega)).trans X4c2; have qa3 := (hbq.cell (p := ⟨w5.heap.size, 3, none⟩) (show w5.heap.size < _ by omega)).trans X4c3; have qa4 := (hbq.cell (p := ⟨w.heap.size, 0, none⟩) (show w.heap.size < _ by omega)).trans x0; have qa5 := (hbq.cell (p := ⟨w.heap.size, 1, none⟩) (show w.heap.size < _ by omega)).trans x1; have qa6 := (hbq.cell (p := ⟨w.heap.size, 2, none⟩) (show w.heap.size < _ by omega)).trans x2; have qa7 := (hbq.cell (p := ⟨w.heap.size, 3, none⟩) (show w.heap.size < _ by omega)).trans x3) | (go_at_call 18; refine (eqRing_r (H4.out.below (hD.trans hbq) (by omega)).rd huq.rd (by omega) (Nat.le_refl _) hlc0 hls0).mono ?_; rintro e w11 ⟨rfl, hbr⟩; have zr : w10.heap.size ≤ w11.heap.size := hbr.size; have qb0 := (hbr.cell (p := ⟨w5.heap.size, 0, none⟩) (show w5.heap.size < _ by omega)).trans qa0; have qb1 := (hbr.cell (p := ⟨w5.heap.size, 1, none⟩) (show w5.heap.size < _ by omega)).trans qa1; have qb2 := (hbr.cell (p := ⟨w5.heap.size, 2, none⟩) (show w5.heap.size < _ by omega)).trans qa2; have qb3 := (hbr.cell (p := ⟨w5.heap.size, 3, none⟩) (show w5.heap.size < _ by omega)).trans qa3; have qb4 := (hbr.cell (p := ⟨w.heap.size, 0, none⟩) (show w.heap.size < _ by omega)).trans qa4; have qb5 := (hbr.cell (p := ⟨w.heap.size, 1, none⟩) (show w.heap.size < _ by omega)).trans qa5; have qb6 := (hbr.cell (p := ⟨w.heap.size, 2, none⟩) (show w.heap.size < _ by omega)).trans qa6; have qb7 := (hbr.cell (p := ⟨w.heap.size, 3, none⟩) (show w.heap.size < _ by omega)).trans qa7))
  have hb11 : Below w9.heap.size w9 w11 := (hD.trans (hbq.mono (show w9.heap.size ≤ _ by omega))).trans (hbr.mono (show w9.heap.size ≤ _ by omega))
  have hB11 := hB9.trans (hb11.mono (show w.heap.size + 1 ≤ _ by omega))
  have z11 : w9.heap.size ≤ w11.heap.size := hb11.size
  clear hbq hbr huq qa0 qb0 qa1 qb1 qa2 qb2 qa3 qb3 qa4 qb4 qa5 qb5 qa6 qb6 qa7 qb7 hD zD
  replace HM0 := Lib.hid (Rep.below (R := RingR) HM0.out hb11 (by omega))
  replace HW := Lib.hid (HW.out.below hb11 (by omega))
  replace XW := Lib.hid ((hb11.block _ (by omega)).trans XW.out)
  replace H4 := Lib.hid (H4.out.below hb11 (by omega))
  replace X4 := Lib.hid ((hb11.block _ (by omega)).trans X4.out)
  replace HG := Lib.hid (HG.out.below hb11 (by omega))
  replace XG := Lib.hid ((hb11.block _ (by omega)).trans XG.out)
  clear x0 x1 x2 x3
  obtain ⟨x0, x1, x2, x3⟩ := HX.out w11 hB11
  clear XWc0 XWc1 XWc2 XWc3
  clear X4c0 X4c1 X4c2 X4c3
  clear XGc0 XGc1 XGc2 XGc3
  have XWc0 := cell_of_row _ _ 0 _ _ (0, 0) XW.out
  have XWc1 := cell_of_row _ _ 1 _ _ (0, 0) XW.out
  have XWc2 := cell_of_row _ _ 2 _ _ (0, 0) XW.out
  have XWc3 := cell_of_row _ _ 3 _ _ (0, 0) XW.out
  simp only [List.getElem?_toArray, List.getElem?_cons_zero, List.getElem?_cons_succ] at XWc0 XWc1 XWc2 XWc3
  have X4c0 := cell_of_row _ _ 0 _ _ (0, 0) X4.out
  have X4c1 := cell_of_row _ _ 1 _ _ (0, 0) X4.out
  have X4c2 := cell_of_row _ _ 2 _ _ (0, 0) X4.out
  have X4c3 := cell_of_row _ _ 3 _ _ (0, 0) X4.out
  simp only [List.getElem?_toArray, List.getElem?_cons_zero, List.getElem?_cons_succ] at X4c0 X4c1 X4c2 X4c3
  have XGc0 := cell_of_row _ _ 0 _ _ (0, 0) XG.out
  have XGc1 := cell_of_row _ _ 1 _ _ (0, 0) XG.out
  have XGc2 := cell_of_row _ _ 2 _ _ (0, 0) XG.out
  have XGc3 := cell_of_row _ _ 3 _ _ (0, 0) XG.out
  simp only [List.getElem?_toArray, List.getElem?_cons_zero, List.getElem?_cons_succ] at XGc0 XGc1 XGc2 XGc3
  go_wp2_with fail
  refine (markRing_r 1 (by omega) (by omega) H4.out (by omega) hlc0 hls0).mono ?_
  rintro e w12 ⟨rfl, hmk12, ht12⟩
  have z12 : w11.heap.size ≤ w12.heap.size := ht12.size
  have hB12 := hB11.trans (ht12.below (show w.heap.size + 1 ≤ _ by omega) (by omega))
  replace HM0 := Lib.hid (Rep.turned (R := RingR) HM0.out ht12 (by omega) (by omega))
  replace HW := Lib.hid (HW.out.turned ht12 (by omega) (by omega))
  replace XW := Lib.hid ((ht12.block _ (by omega) (by omega)).trans XW.out)
  replace X4 := Lib.hid ((ht12.block _ (by omega) (by omega)).trans X4.out)
  replace HG := Lib.hid (HG.out.turned ht12 (by omega) (by omega))
  replace XG := Lib.hid ((ht12.block _ (by omega) (by omega)).trans XG.out)
  clear H4
  clear x0 x1 x2 x3
  obtain ⟨x0, x1, x2, x3⟩ := HX.out w12 hB12
  clear XWc0 XWc1 XWc2 XWc3
  clear X4c0 X4c1 X4c2 X4c3
  clear XGc0 XGc1 XGc2 XGc3
  have XWc0 := cell_of_row _ _ 0 _ _ (0, 0) XW.out
  have XWc1 := cell_of_row _ _ 1 _ _ (0, 0) XW.out
  have XWc2 := cell_of_row _ _ 2 _ _ (0, 0) XW.out
  have XWc3 := cell_of_row _ _ 3 _ _ (0, 0) XW.out
  simp only [List.getElem?_toArray, List.getElem?_cons_zero, List.getElem?_cons_succ] at XWc0 XWc1 XWc2 XWc3
  have X4c0 := cell_of_row _ _ 0 _ _ (0, 0) X4.out
  have X4c1 := cell_of_row _ _ 1 _ _ (0, 0) X4.out
  have X4c2 := cell_of_row _ _ 2 _ _ (0, 0) X4.out
  have X4c3 := cell_of_row _ _ 3 _ _ (0, 0) X4.out
  simp only [List.getElem?_toArray, List.getElem?_cons_zero, List.getElem?_cons_succ] at X4c0 X4c1 X4c2 X4c3
  have XGc0 := cell_of_row _ _ 0 _ _ (0, 0) XG.out
  have XGc1 := cell_of_row _ _ 1 _ _ (0, 0) XG.out
  have XGc2 := cell_of_row _ _ 2 _ _ (0, 0) XG.out
  have XGc3 := cell_of_row _ _ 3 _ _ (0, 0) XG.out
  simp only [List.getElem?_toArray, List.getElem?_cons_zero, List.getElem?_cons_succ] at XGc0 XGc1 XGc2 XGc3
  clear X4c0 X4c1 X4c2 X4c3
  clear X4
  have kk : ¬ ((1 : Int) + (m0.2.2.1.length : Int) + (m0.2.2.2.length : Int) < 0) := by omega
  go_wp2_with fail
  refine (eqRing_r HG.out.rd HW.out.rd (by omega) (by omega) hwc hws).mono ?_
  rintro e w13 ⟨rfl, hb13⟩
  have z13 : w12.heap.size ≤ w13.heap.size := hb13.size
  have hB13 := hB12.trans (hb13.mono (show w.heap.size + 1 ≤ _ by omega))
  replace HM0 := Lib.hid (Rep.below (R := RingR) HM0.out hb13 (by omega))
  replace HW := Lib.hid (HW.out.below hb13 (by omega))
  replace XW := Lib.hid ((hb13.block _ (by omega)).trans XW.out)
  replace HG := Lib.hid (HG.out.below hb13 (by omega))
  replace XG := Lib.hid ((hb13.block _ (by omega)).trans XG.out)
  clear x0 x1 x2 x3
  obtain ⟨x0, x1, x2, x3⟩ := HX.out w13 hB13
  clear XWc0 XWc1 XWc2 XWc3
  clear XGc0 XGc1 XGc2 XGc3
  have XWc0 := cell_of_row _ _ 0 _ _ (0, 0) XW.out
  have XWc1 := cell_of_row _ _ 1 _ _ (0, 0) XW.out
  have XWc2 := cell_of_row _ _ 2 _ _ (0, 0) XW.out
  have XWc3 := cell_of_row _ _ 3 _ _ (0, 0) XW.out
  simp only [List.getElem?_toArray, List.getElem?_cons_zero, List.getElem?_cons_succ] at XWc0 XWc1 XWc2 XWc3
  have XGc0 := cell_of_row _ _ 0 _ _ (0, 0) XG.out
  have XGc1 := cell_of_row _ _ 1 _ _ (0, 0) XG.out
  have XGc2 := cell_of_row _ _ 2 _ _ (0, 0) XG.out
  have XGc3 := cell_of_row _ _ 3 _ _ (0, 0) XG.out
  simp only [List.getElem?_toArray, List.getElem?_cons_zero, List.getElem?_cons_succ] at XGc0 XGc1 XGc2 XGc3
  clear kk
  go_wp2_with fail
  refine (markRing_r 1 (by omega) (by omega) HG.out (by omega) hwc hws).mono ?_
  rintro e w14 ⟨rfl, hmk14, ht14⟩
  have z14 : w13.heap.size ≤ w14.heap.size := ht14.size
  have hB14 := hB13.trans (ht14.below (show w.heap.size + 1 ≤ _ by omega) (by omega))
  replace HM0 := Lib.hid (Rep.turned (R := RingR) HM0.out ht14 (by omega) (by omega))
  replace HW := Lib.hid (HW.out.turned ht14 (by omega) (by omega))
  replace XW := Lib.hid ((ht14.block _ (by omega) (by omega)).trans XW.out)
  replace XG := Lib.hid ((ht14.block _ (by omega) (by omega)).trans XG.out)
  clear HG
  have HM := Lib.hid hmk14
  clear x0 x1 x2 x3
  obtain ⟨x0, x1, x2, x3⟩ := HX.out w14 hB14
  clear XWc0 XWc1 XWc2 XWc3
  clear XGc0 XGc1 XGc2 XGc3
  have XWc0 := cell_of_row _ _ 0 _ _ (0, 0) XW.out
  have XWc1 := cell_of_row _ _ 1 _ _ (0, 0) XW.out
  have XWc2 := cell_of_row _ _ 2 _ _ (0, 0) XW.out
  have XWc3 := cell_of_row _ _ 3 _ _ (0, 0) XW.out
  simp only [List.getElem?_toArray, List.getElem?_cons_zero, List.getElem?_cons_succ] at XWc0 XWc1 XWc2 XWc3
  have XGc0 := cell_of_row _ _ 0 _ _ (0, 0) XG.out
  have XGc1 := cell_of_row _ _ 1 _ _ (0, 0) XG.out
  have XGc2 := cell_of_row _ _ 2 _ _ (0, 0) XG.out
  have XGc3 := cell_of_row _ _ 3 _ _ (0, 0) XG.out
  simp only [List.getElem?_toArray, List.getElem?_cons_zero, List.getElem?_cons_succ] at XGc0 XGc1 XGc2 XGc3
  have kk : ¬ ((1 : Int) + (wm.2.2.1.length : Int) + (wm.2.2.2.length : Int) < 0) := by omega
  go_wp2_with fail
  refine (heldRing_r wm (by omega) (by omega) HM.out.rd (by omega) hwc hws).mono ?_
  rintro e w15 ⟨rfl, hb15⟩
  have z15 : w14.heap.size ≤ w15.heap.size := hb15.size
  have hB15 := hB14.trans (hb15.mono (show w.heap.size + 1 ≤ _ by omega))
  replace HM0 := Lib.hid (Rep.below (R := RingR) HM0.out hb15 (by omega))
  replace HW := Lib.hid (HW.out.below hb15 (by omega))
  replace XW := Lib.hid ((hb15.block _ (by omega)).trans XW.out)
  replace XG := Lib.hid ((hb15.block _ (by omega)).trans XG.out)
  replace HM := Lib.hid (HM.out.below hb15 (by omega))
  clear x0 x1 x2 x3
  obtain ⟨x0, x1, x2, x3⟩ := HX.out w15 hB15
  clear XWc0 XWc1 XWc2 XWc3
  clear XGc0 XGc1 XGc2 XGc3
  have XWc0 := cell_of_row _ _ 0 _ _ (0, 0) XW.out
  have XWc1 := cell_of_row _ _ 1 _ _ (0, 0) XW.out
  have XWc2 := cell_of_row _ _ 2 _ _ (0, 0) XW.out
  have XWc3 := cell_of_row _ _ 3 _ _ (0, 0) XW.out
  simp only [List.getElem?_toArray, List.getElem?_cons_zero, List.getElem?_cons_succ] at XWc0 XWc1 XWc2 XWc3
  have XGc0 := cell_of_row _ _ 0 _ _ (0, 0) XG.out
  have XGc1 := cell_of_row _ _ 1 _ _ (0, 0) XG.out
  have XGc2 := cell_of_row _ _ 2 _ _ (0, 0) XG.out
  have XGc3 := cell_of_row _ _ 3 _ _ (0, 0) XG.out
  simp only [List.getElem?_toArray, List.getElem?_cons_zero, List.getElem?_cons_succ] at XGc0 XGc1 XGc2 XGc3
  go_wp2_with fail
  refine (toRing_r HM0.out (by omega) hlc0 hls0).mono ?_
  rintro e w16 ⟨vc16, vs16, rfl, hu16, hb16⟩
  obtain ⟨AC_16, cc16, rfl, -⟩ := (ring2 hu16.rd).1.form
  obtain ⟨AS_16, cs16, rfl, -⟩ := (ring2 hu16.rd).2.form
  have z16 : w15.heap.size ≤ w16.heap.size := hb16.size
  have hB16 := hB15.trans (hb16.mono (show w.heap.size + 1 ≤ _ by omega))
  replace HM0 := Lib.hid (Rep.below (R := RingR) HM0.out hb16 (by omega))
  replace HW := Lib.hid (HW.out.below hb16 (by omega))
  replace XW := Lib.hid ((hb16.block _ (by omega)).trans XW.out)
  replace XG := Lib.hid ((hb16.block _ (by omega)).trans XG.out)
  replace HM := Lib.hid (HM.out.below hb16 (by omega))
  have H5 := Lib.hid hu16
  clear x0 x1 x2 x3
  obtain ⟨x0, x1, x2, x3⟩ := HX.out w16 hB16
  clear XWc0 XWc1 XWc2 XWc3
  clear XGc0 XGc1 XGc2 XGc3
  have XWc0 := cell_of_row _ _ 0 _ _ (0, 0) XW.out
  have XWc1 := cell_of_row _ _ 1 _ _ (0, 0) XW.out
  have XWc2 := cell_of_row _ _ 2 _ _ (0, 0) XW.out
  have XWc3 := cell_of_row _ _ 3 _ _ (0, 0) XW.out
  simp only [List.getElem?_toArray, List.getElem?_cons_zero, List.getElem?_cons_succ] at XWc0 XWc1 XWc2 XWc3
  have XGc0 := cell_of_row _ _ 0 _ _ (0, 0) XG.out
  have XGc1 := cell_of_row _ _ 1 _ _ (0, 0) XG.out
  have XGc2 := cell_of_row _ _ 2 _ _ (0, 0) XG.out
  have XGc3 := cell_of_row _ _ 3 _ _ (0, 0) XG.out
  simp only [List.getElem?_toArray, List.getElem?_cons_zero, List.getElem?_cons_succ] at XGc0 XGc1 XGc2 XGc3
  go_wp2_with fail
  refine (implRingAdd_any _ _ _ m0 a1 a2 w16 (HHD.out.below (HB0.out.trans (hB16.mono (by omega))) (Nat.le_refl _)) (ring2 H5.out.rd).1 (ring2 H5.out.rd).2 (by omega) hlc0 hls0).mono ?_
  rintro e w17 ⟨vc17, vs17, rfl, hu17, hb17⟩
  rw [HWO.out] at hu17 ⊢
  obtain ⟨AC_17, cc17, rfl, -⟩ := (ring2 hu17.rd).1.form
  obtain ⟨AS_17, cs17, rfl, -⟩ := (ring2 hu17.rd).2.form
  have z17 : w16.heap.size ≤ w17.heap.size := hb17.size
  have hB17 := hB16.trans (hb17.mono (show w.heap.size + 1 ≤ _ by omega))
  replace HM0 := Lib.hid (Rep.below (R := RingR) HM0.out hb17 (by omega))
  replace HW := Lib.hid (HW.out.below hb17 (by omega))
  replace XW := Lib.hid ((hb17.block _ (by omega)).trans XW.out)
  replace XG := Lib.hid ((hb17.block _ (by omega)).trans XG.out)
  replace HM := Lib.hid (HM.out.below hb17 (by omega))
  replace H5 := Lib.hid (H5.out.below hb17 (by omega))
  have HH := Lib.hid hu17
  clear x0 x1 x2 x3
  obtain ⟨x0, x1, x2, x3⟩ := HX.out w17 hB17
  clear XWc0 XWc1 XWc2 XWc3
  clear XGc0 XGc1 XGc2 XGc3
  have XWc0 := cell_of_row _ _ 0 _ _ (0, 0) XW.out
  have XWc1 := cell_of_row _ _ 1 _ _ (0, 0) XW.out
  have XWc2 := cell_of_row _ _ 2 _ _ (0, 0) XW.out
  have XWc3 := cell_of_row _ _ 3 _ _ (0, 0) XW.out
  simp only [List.getElem?_toArray, List.getElem?_cons_zero, List.getElem?_cons_succ] at XWc0 XWc1 XWc2 XWc3
  have XGc0 := cell_of_row _ _ 0 _ _ (0, 0) XG.out
  have XGc1 := cell_of_row _ _ 1 _ _ (0, 0) XG.out
  have XGc2 := cell_of_row _ _ 2 _ _ (0, 0) XG.out
  have XGc3 := cell_of_row _ _ 3 _ _ (0, 0) XG.out
  simp only [List.getElem?_toArray, List.getElem?_cons_zero, List.getElem?_cons_succ] at XGc0 XGc1 XGc2 XGc3
  have yy17_0 : w.heap.size < w17.heap.size := by omega
  have yy17XW : w3.heap.size < w17.heap.size := by omega
  have yy17XG : w7.heap.size < w17.heap.size := by omega
  go_wp2_with fail
  have hb18 := (Below.refl w17.heap.size w17).alloc (Nat.le_refl _) (.cells #[.int .i64 wm.1, .int .i64 wm.2.1, .slice AC_17 wm.2.2.1.length cc17, .slice AS_17 wm.2.2.2.length cs17] 27)
  have hXH := heap_alloc_new w17 (.cells #[.int .i64 wm.1, .int .i64 wm.2.1, .slice AC_17 wm.2.2.1.length cc17, .slice AS_17 wm.2.2.2.length cs17] 27)
  generalize w17.alloc (.cells #[.int .i64 wm.1, .int .i64 wm.2.1, .slice AC_17 wm.2.2.1.length cc17, .slice AS_17 wm.2.2.2.length cs17] 27) = w18 at hb18 hXH ⊢
  have z18 : w17.heap.size ≤ w18.heap.size := hb18.size
  have zl18 : w17.heap.size < w18.heap.size := lt_of_block hXH
  have hB18 := hB17.trans (hb18.mono (show w.heap.size + 1 ≤ _ by omega))
  replace HM0 := Lib.hid (Rep.below (R := RingR) HM0.out hb18 (by omega))
  replace HW := Lib.hid (HW.out.below hb18 (by omega))
  replace XW := Lib.hid ((hb18.block _ (by omega)).trans XW.out)
  replace XG := Lib.hid ((hb18.block _ (by omega)).trans XG.out)
  replace HM := Lib.hid (HM.out.below hb18 (by omega))
  replace H5 := Lib.hid (H5.out.below hb18 (by omega))
  replace HH := Lib.hid (HH.out.below hb18 (by omega))
  have XH := Lib.hid hXH
  clear hXH
  clear x0 x1 x2 x3
  obtain ⟨x0, x1, x2, x3⟩ := HX.out w18 hB18
  have XHc0 := cell_of_row _ _ 0 _ _ (0, 0) XH.out
  have XHc1 := cell_of_row _ _ 1 _ _ (0, 0) XH.out
  have XHc2 := cell_of_row _ _ 2 _ _ (0, 0) XH.out
  have XHc3 := cell_of_row _ _ 3 _ _ (0, 0) XH.out
  simp only [List.getElem?_toArray, List.getElem?_cons_zero, List.getElem?_cons_succ] at XHc0 XHc1 XHc2 XHc3
  go_wp2_with fail
  refine (eqRing_r HH.out.rd HW.out.rd (by omega) (by omega) hwc hws).mono ?_
  rintro e w19 ⟨rfl, hb19⟩
  have z19 : w18.heap.size ≤ w19.heap.size := hb19.size
  have hB19 := hB18.trans (hb19.mono (show w.heap.size + 1 ≤ _ by omega))
  replace HM0 := Lib.hid (Rep.below (R := RingR) HM0.out hb19 (by omega))
  replace HW := Lib.hid (HW.out.below hb19 (by omega))
  replace XW := Lib.hid ((hb19.block _ (by omega)).trans XW.out)
  replace XG := Lib.hid ((hb19.block _ (by omega)).trans XG.out)
  replace HM := Lib.hid (HM.out.below hb19 (by omega))
  replace H5 := Lib.hid (H5.out.below hb19 (by omega))
  replace HH := Lib.hid (HH.out.below hb19 (by omega))
  replace XH := Lib.hid ((hb19.block _ (by omega)).trans XH.out)
  clear x0 x1 x2 x3
  obtain ⟨x0, x1, x2, x3⟩ := HX.out w19 hB19
  clear XWc0 XWc1 XWc2 XWc3
  clear XGc0 XGc1 XGc2 XGc3
  clear XHc0 XHc1 XHc2 XHc3
  have XWc0 := cell_of_row _ _ 0 _ _ (0, 0) XW.out
  have XWc1 := cell_of_row _ _ 1 _ _ (0, 0) XW.out
  have XWc2 := cell_of_row _ _ 2 _ _ (0, 0) XW.out
  have XWc3 := cell_of_row _ _ 3 _ _ (0, 0) XW.out
  simp only [List.getElem?_toArray, List.getElem?_cons_zero, List.getElem?_cons_succ] at XWc0 XWc1 XWc2 XWc3
  have XGc0 := cell_of_row _ _ 0 _ _ (0, 0) XG.out
  have XGc1 := cell_of_row _ _ 1 _ _ (0, 0) XG.out
  have XGc2 := cell_of_row _ _ 2 _ _ (0, 0) XG.out
  have XGc3 := cell_of_row _ _ 3 _ _ (0, 0) XG.out
  simp only [List.getElem?_toArray, List.getElem?_cons_zero, List.getElem?_cons_succ] at XGc0 XGc1 XGc2 XGc3
  have XHc0 := cell_of_row _ _ 0 _ _ (0, 0) XH.out
  have XHc1 := cell_of_row _ _ 1 _ _ (0, 0) XH.out
  have XHc2 := cell_of_row _ _ 2 _ _ (0, 0) XH.out
  have XHc3 := cell_of_row _ _ 3 _ _ (0, 0) XH.out
  simp only [List.getElem?_toArray, List.getElem?_cons_zero, List.getElem?_cons_succ] at XHc0 XHc1 XHc2 XHc3
  go_wp2_with fail
  refine (heldRing_r wm (by omega) (by omega) HM.out.rd (by omega) hwc hws).mono ?_
  rintro e w20 ⟨rfl, hb20⟩
  have z20 : w19.heap.size ≤ w20.heap.size := hb20.size
  have hB20 := hB19.trans (hb20.mono (show w.heap.size + 1 ≤ _ by omega))
  replace HM0 := Lib.hid (Rep.below (R := RingR) HM0.out hb20 (by omega))
  replace HW := Lib.hid (HW.out.below hb20 (by omega))
  replace XW := Lib.hid ((hb20.block _ (by omega)).trans XW.out)
  replace XG := Lib.hid ((hb20.block _ (by omega)).trans XG.out)
  replace HM := Lib.hid (HM.out.below hb20 (by omega))
  replace H5 := Lib.hid (H5.out.below hb20 (by omega))
  replace HH := Lib.hid (HH.out.below hb20 (by omega))
  replace XH := Lib.hid ((hb20.block _ (by omega)).trans XH.out)
  clear x0 x1 x2 x3
  obtain ⟨x0, x1, x2, x3⟩ := HX.out w20 hB20
  clear XWc0 XWc1 XWc2 XWc3
  clear XGc0 XGc1 XGc2 XGc3
  clear XHc0 XHc1 XHc2 XHc3
  have XWc0 := cell_of_row _ _ 0 _ _ (0, 0) XW.out
  have XWc1 := cell_of_row _ _ 1 _ _ (0, 0) XW.out
  have XWc2 := cell_of_row _ _ 2 _ _ (0, 0) XW.out
  have XWc3 := cell_of_row _ _ 3 _ _ (0, 0) XW.out
  simp only [List.getElem?_toArray, List.getElem?_cons_zero, List.getElem?_cons_succ] at XWc0 XWc1 XWc2 XWc3
  have XGc0 := cell_of_row _ _ 0 _ _ (0, 0) XG.out
  have XGc1 := cell_of_row _ _ 1 _ _ (0, 0) XG.out
  have XGc2 := cell_of_row _ _ 2 _ _ (0, 0) XG.out
  have XGc3 := cell_of_row _ _ 3 _ _ (0, 0) XG.out
  simp only [List.getElem?_toArray, List.getElem?_cons_zero, List.getElem?_cons_succ] at XGc0 XGc1 XGc2 XGc3
  have XHc0 := cell_of_row _ _ 0 _ _ (0, 0) XH.out
  have XHc1 := cell_of_row _ _ 1 _ _ (0, 0) XH.out
  have XHc2 := cell_of_row _ _ 2 _ _ (0, 0) XH.out
  have XHc3 := cell_of_row _ _ 3 _ _ (0, 0) XH.out
  simp only [List.getElem?_toArray, List.getElem?_cons_zero, List.getElem?_cons_succ] at XHc0 XHc1 XHc2 XHc3
  go_wp2
  go_ret
  exact ⟨rfl, (HB0.out.trans (hB20.mono (by omega)))⟩

set_option maxRecDepth 100000 in
theorem t0 : (Tryd.prog.globals[0]?).map (·.type) = some 76 := by kernel_rfl
set_option maxRecDepth 100000 in
theorem g0 : Tryd.prog.globalNamed "loop.example/g00735/impl.errNotMoney" = some 0 := by kernel_rfl
set_option maxRecDepth 100000 in
theorem cellsE : Tryd.prog.cellsOf 133 = 1 := by kernel_rfl
set_option maxRecDepth 100000 in
theorem cellsS : Tryd.prog.cellsOf 9 = 1 := by kernel_rfl
set_option maxRecDepth 100000 in
theorem star : "*" ++ "errors.errorString" = "*errors.errorString" := by decide
set_option maxRecDepth 100000 in
theorem rowE (u : TypeId) (h : Tryd.prog.typeName? 3 u = some "*errors.errorString") : u = 111 :=
  typeName_ptr_named (nm := "errors.errorString") (by rw [star]; kernel_rfl) (by kernel_rfl) (by decide) u (by rw [star]; exact h)
set_option maxRecDepth 100000 in
theorem gH : Tryd.prog.globalNamed "errors.errorType" = some 1 := by kernel_rfl
set_option maxRecDepth 100000 in
theorem rtH : (Tryd.prog.cutTypes.find? (·.1 == "internal/reflectlite.rtype")).map (·.2) = some 98 := by kernel_rfl
set_option maxRecDepth 100000 in
theorem oneH : ((List.range Tryd.prog.types.size).filter fun t => Tryd.prog.rowNamed t [101, 114, 114, 111, 114]) = [76] := by kernel_rfl
set_option maxRecDepth 100000 in
theorem handle_of {W : World} (h : handlesMet Tryd.prog [("errors.errorType", Rows.laid_errors_errorType)] W) : W.cell? ⟨1, 0, none⟩ = some (.iface 98 (.agg #[.pointer (some ⟨2, 76, none⟩)])) := by
  obtain ⟨name, u, ty, e1, e2, e3, e4, e5⟩ := h _ (List.mem_singleton.2 rfl)
  have en : name = [101, 114, 114, 111, 114] := (Option.some.inj e1).symm
  subst en
  obtain rfl := Option.some.inj (rtH.symm.trans e2)
  have hm : ty ∈ (List.range Tryd.prog.types.size).filter fun t => Tryd.prog.rowNamed t [101, 114, 114, 111, 114] := List.mem_filter.2 ⟨List.mem_range.2 e3, e4⟩
  rw [oneH] at hm
  obtain rfl := List.mem_singleton.1 hm
  have hh : typeHandle Tryd.prog 76 = .pointer (some ⟨2, 76, none⟩) := by kernel_rfl
  rw [hh] at e5
  simpa using World.var?_cell gH e5 0

set_option maxRecDepth 100000 in
theorem laidOut : laidOutB Tryd.prog = true := by kernel_rfl
set_option maxRecDepth 100000 in
theorem rowed : allRowed Tryd.prog Tryd.f4.params.toList = true := by kernel_rfl
set_option maxRecDepth 100000 in
theorem resT : Tryd.f4.resultTypes = #[4] := by kernel_rfl
set_option maxRecDepth 100000 in
theorem door_met (os : Os) (args : Array Value) : laidMetH Tryd.prog Rows.fnExactRingAddRow.laid ((World.doorLaid Tryd.prog 400 os).forCall (fun _ _ => 0) ⟨#[], args, []⟩).memory :=
  laidMetH_of_parts3 (fuel := 8) (laidMet_of_run' 8 (by kernel_rfl) (by kernel_rfl)) (by kernel_rfl) (by kernel_rfl)

set_option maxRecDepth 100000 in
theorem lifted (os : Os) (started : os.Started) (H : Type) (enc : TypeId × Value → H) :
    ReturnsInHanded {} Tryd.checked os 4 .any (fun w args => (Rows.fnExactRingAddSpec.pre enc Tryd.prog Tryd.f4 [] false w args ∧ laidMetH Tryd.prog Rows.fnExactRingAddRow.laid w) ∧ sizedMet enc Tryd.prog Tryd.f4 (OpenSpec.ofChange Rows.fnExactRingAddSpec) false w args)
      (Rows.fnExactRingAddSpec.post enc Tryd.prog Tryd.f4 false true false false) := by
  refine returnsInHanded_of_change_and (C := Tryd.checked) (X := fun w _ => laidMetH Tryd.prog Rows.fnExactRingAddRow.laid w) (fun _ _ _ hh h => h.of_heap hh) own started (by kernel_rfl) Tryd.func4
    (ChangeSpec.witness_shaped (enc := enc) (C := Tryd.checked) (os := os) (X := fun w _ => laidMetH Tryd.prog Rows.fnExactRingAddRow.laid w) false (World.doorLaid Tryd.prog 400 os) #[.agg #[.int .i64 0, .int .i64 0, .slice none 0 0, .slice none 0 0], .int .i64 0, .int .i64 0] 8 rfl (World.shaped_of_RefB (by kernel_rfl) (by kernel_rfl)) (by kernel_rfl) (by kernel_rfl) (by kernel_rfl) (door_met os _)) ?_
  intro W base args ds gs before hval0 hW _ _ hL0 _
  have hval : ∀ (j : Nat) t v, Tryd.f4.params[j]? = some t → args[j]? = some v → Value.okWide Tryd.prog W .any base t v := hval0
  have hW' := hW
  obtain ⟨p, q, hA0, hV, rfl, hfz, hnd⟩ := hW
  have hA : DataW.TrodAll enc Tryd.prog W 0 (fun _ => true) true Tryd.f4.params.toList args.toList ds p := hA0
  rw [Tryd.params4] at hA hval
  have hh := handle_of hL0.2
  have hL : laidMet Tryd.prog [("loop.example/g00735/impl.errNotMoney", Rows.laid_loop_example_g00735_impl_errNotMoney)] W := hL0.1
  obtain ⟨b0, s0, hv0, _, _, _⟩ := laid_sentinel hL g0 t0 Tryd.underlying76 rowE Tryd.underlying111 Tryd.underlying133 rfl rfl Tryd.underlying9 cellsE cellsS
  have hc0 : W.cell? ⟨0, 0, none⟩ = some (.iface 111 (.pointer (some b0))) := by simpa using World.var?_cell g0 hv0 0
  have hlt0 : 0 < W.heap.size := by
    rcases Nat.lt_or_ge 0 W.heap.size with h | h
    · exact h
    · simp [World.cell?, Array.getElem?_eq_none h] at hc0
  obtain ⟨v0, vs0, d0, ds0, p0, q0, hargs, rfl, rfl, h0, r0⟩ := trodAll_cons hA
  obtain ⟨v1, vs1, d1, ds1, p1, q1, rfl, rfl, rfl, h1, r1⟩ := trodAll_cons r0
  obtain ⟨v2, vs2, d2, ds2, p2, q2, rfl, rfl, rfl, h2, r2⟩ := trodAll_cons r1
  obtain ⟨rfl, rfl, rfl⟩ := trodAll_nil r2
  obtain rfl : args = #[v0, v1, v2] := by cases args; simp_all
  obtain ⟨rfl, rfl⟩ := hV.unique (vars_read1 enc g0 t0 Tryd.underlying76 hv0 trivial _)
  obtain ⟨m0, uc0, us0, rfl, w0, z0, n0a, n0b, y0a, y0b⟩ := open_ring (hval 0 36 v0 rfl rfl) h0
  obtain ⟨a1, rfl, rfl, rfl, w1⟩ := open_int Tryd.underlying3 (hval 1 3 v1 rfl rfl) h1
  obtain ⟨a2, rfl, rfl, rfl, w2⟩ := open_int Tryd.underlying3 (hval 2 3 v2 rfl rfl) h2
  clear hA0 hval0
  refine (walk W _ hc0 hh _ _ _ _ _ w0 z0 ⟨n0a, n0b⟩ ⟨y0a, y0b⟩ w1 w2).mono fun e W' ⟨he, hg⟩ => ?_
  subst he
  exact ⟨_, rfl, post_true laidOut rowed hW' rfl resT Tryd.underlying4 hg (vars_read1 enc g0 t0 Tryd.underlying76 (var?_below hg g0 hlt0 hv0) trivial _)⟩

set_option maxRecDepth 100000 in
theorem over : Rows.fnExactRingAddRow.holds Tryd.pinned (OpenSpec.ofChange Rows.fnExactRingAddSpec) :=
  OpenClaim.holds_of_wide 4 Tryd.f4 rfl rfl rfl rfl rfl rfl rfl ⟨rfl, rfl, rfl, rfl, rfl⟩ rfl rfl rfl rfl rfl (by kernel_rfl) Tryd.func4 (by kernel_rfl)
    (of_decide_eq_true (by kernel_rfl)) (by unfold Func.isWrapper; first | (rw [if_pos (by decide +kernel)]; kernel_rfl) | (rw [if_neg (by decide +kernel)]; exact ⟨rfl, rfl⟩))
    (fun os started H enc _ => lifted os started H enc)

set_option maxRecDepth 100000 in
theorem said : Rows.FnExactRingAddSaid :=
  over

set_option maxRecDepth 100000 in
theorem plain (f : FuncId) (fn : Func) (hf : Tryd.pinned.checked.prog.funcNamed "loop.example/g00735/laws.FnExactRingAdd" = some f) (hfn : Tryd.pinned.checked.prog.funcs[f]? = some fn) :
    Rows.fnExactRingAddCard.stood.looks = Tryd.pinned.checked.prog.looks [] ∧ ∀ (j : Nat) t, fn.params[j]? = some t → Tryd.pinned.checked.prog.wantsStandIn t = false := by
  obtain rfl : f = 4 := Option.some.inj ((show Tryd.prog.funcNamed "loop.example/g00735/laws.FnExactRingAdd" = some 4 by kernel_rfl).symm.trans hf) |>.symm
  obtain rfl : fn = Tryd.f4 := (Option.some.inj (Tryd.func4.symm.trans hfn)).symm
  refine ⟨by kernel_rfl, fun j t ht => ?_⟩
  rw [Tryd.params4] at ht
  have hm : t ∈ [36, 3, 3] := by simpa using Array.mem_of_getElem? ht
  have hall : ([36, 3, 3].all fun u => !Tryd.prog.wantsStandIn u) = true := by kernel_rfl
  exact (show Tryd.prog.wantsStandIn t = false by simpa using List.all_eq_true.1 hall t hm)

set_option maxRecDepth 100000 in
theorem proved : Rows.FnExactRingAddCardSaid :=
  Claim7.holds_tied_plain_at .later [] _ _ _ _ said (fun _ h => by cases h) (by kernel_rfl) (fun _ h => by cases h) fnExactRingAdd_row_tie rfl ⟨rfl, rfl⟩ (by kernel_rfl) rfl plain (by kernel_rfl)
#print axioms proved
end Go.Proofs.YteogdfiaobccfaaDoor.fnExactRingAdd
