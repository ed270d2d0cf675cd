/- The walk of Authorize; conditions: those that it names. -/
import Derived.Test.YtnmijppppcgobaaGreatDoorMrg13
import Derived.Test.YtnmijppppcgobaaGreatDoorMrg8
import Derived.Test.YtnmijppppcgobaaGreatDoorMrg10
import Derived.Stop.LaidErr
import Derived.LaidMore
import Derived.Stop.Joined
import Derived.SevenTiedAt
import Derived.WalkSmall
import Derived.LaidHandle
import Derived.Test.YtnmijppppcgobaaGreatDoorMrg14
import Derived.Test.YtnmijppppcgobaaGreatDoorMrg5
import Derived.Test.YtnmijppppcgobaaGreatDoorMrg6
namespace Go.Proofs.YtnmijppppcgobaaGreatDoor.fnExactAuthorize
open Go.ChangeShapes Go.WideShapes Go.ChangeAt Go.RowKit
open Go.WideMaps Go.WideElems
open Go.ChangeMaps (open_string shut_string)
set_option linter.unusedVariables false

set_option maxRecDepth 100000 in
set_option maxHeartbeats 8000000 in
theorem walk (w : World) (p0 : Addr) (hc0 : w.cell? ⟨0, 0, none⟩ = some (.iface 266 (.pointer (some p0)))) (hh : w.cell? ⟨1, 0, none⟩ = some (.iface 230 (.agg #[.pointer (some ⟨6, 149, none⟩)]))) (a0 : AcctD) (vh0 vc0 vs0 vl0 : Value) (a1 : ByteArray) (a2 : Int) (a3 : Int) (a4 : Int) (w0 : AcctR.rd w.heap.size w (aCells a0 vh0 vc0 vs0 vl0) a0) (z0 : acctBig a0) (w1 : a1.size ≤ maxLen) (w2 : (Lit.int .i64 a2).wf = true) (w3 : (Lit.int .i64 a3).wf = true) (w4 : (Lit.int .i64 a4).wf = true) :
    Calls Tryz.prog 8 #[.agg #[.string (aId a0), .int .i64 (aLim a0), .int .i64 (aPos a0), .int .i64 (aMost a0), .int .i64 (aSum a0), vh0, .int .i64 (aR a0).1, .int .i64 (aR a0).2.1, vc0, vs0, vl0], .string a1, .int .i64 a2, .int .i64 a3, .int .i64 a4] w fun e w' => e = .returned (.bool true) ∧ Below w.heap.size w w' := by
  obtain ⟨id0, lm0, ps0, mo0, su0, hs0, ⟨sp0, hd0, cs0, ss0⟩, sl0⟩ := a0
  obtain ⟨xh, xc, xs, xl, hcs, q1, q2, q3, q4⟩ := acct_rd w0
  simp only [aCells, List.cons.injEq, and_true, true_and] at hcs
  obtain ⟨rfl, rfl, rfl, rfl⟩ := hcs
  simp only [aH, aS] at q1 q2 q3 q4
  obtain ⟨AH0, cH0, rfl, -⟩ := Rep.slice_form q1
  obtain ⟨AC0, cC0, rfl, -⟩ := q2.form
  obtain ⟨AS0, cS0, rfl, -⟩ := q3.form
  obtain ⟨AL0, cL0, rfl, -⟩ := Rep.slice_form q4
  have HX0 := Lib.hid w0
  have HY0 := Lib.hid z0
  clear w0 z0 q1 q2 q3 q4
  simp only [aId, aLim, aPos, aMost, aSum]
  have HB0 : Hid (Below w.heap.size w (w.alloc (.cells #[.string id0, .int .i64 lm0, .int .i64 ps0, .int .i64 mo0, .int .i64 su0, .slice AH0 hs0.length cH0, .int .i64 sp0, .int .i64 hd0, .slice AC0 cs0.length cC0, .slice AS0 ss0.length cS0, .slice AL0 sl0.length cL0] 59))) := Lib.hid ((Below.refl w.heap.size w).alloc (Nat.le_refl _) (.cells #[.string id0, .int .i64 lm0, .int .i64 ps0, .int .i64 mo0, .int .i64 su0, .slice AH0 hs0.length cH0, .int .i64 sp0, .int .i64 hd0, .slice AC0 cs0.length cC0, .slice AS0 ss0.length cS0, .slice AL0 sl0.length cL0] 59))
  have HX : Hid (∀ wr, Below (w.heap.size + 1) (w.alloc (.cells #[.string id0, .int .i64 lm0, .int .i64 ps0, .int .i64 mo0, .int .i64 su0, .slice AH0 hs0.length cH0, .int .i64 sp0, .int .i64 hd0, .slice AC0 cs0.length cC0, .slice AS0 ss0.length cS0, .slice AL0 sl0.length cL0] 59)) wr → wr.cell? ⟨w.heap.size, 0, none⟩ = some (.string id0) ∧ wr.cell? ⟨w.heap.size, 1, none⟩ = some (.int .i64 lm0) ∧ wr.cell? ⟨w.heap.size, 2, none⟩ = some (.int .i64 ps0) ∧ wr.cell? ⟨w.heap.size, 3, none⟩ = some (.int .i64 mo0) ∧ wr.cell? ⟨w.heap.size, 4, none⟩ = some (.int .i64 su0) ∧ wr.cell? ⟨w.heap.size, 5, none⟩ = some (.slice AH0 hs0.length cH0) ∧ wr.cell? ⟨w.heap.size, 6, none⟩ = some (.int .i64 sp0) ∧ wr.cell? ⟨w.heap.size, 7, none⟩ = some (.int .i64 hd0) ∧ wr.cell? ⟨w.heap.size, 8, none⟩ = some (.slice AC0 cs0.length cC0) ∧ wr.cell? ⟨w.heap.size, 9, none⟩ = some (.slice AS0 ss0.length cS0) ∧ wr.cell? ⟨w.heap.size, 10, none⟩ = some (.slice AL0 sl0.length cL0)) := Lib.hid fun wr hw => ⟨(hw.cell (p := ⟨w.heap.size, 0, none⟩) (show w.heap.size < _ by omega)).trans (by simp), (hw.cell (p := ⟨w.heap.size, 1, none⟩) (show w.heap.size < _ by omega)).trans (by simp), (hw.cell (p := ⟨w.heap.size, 2, none⟩) (show w.heap.size < _ by omega)).trans (by simp), (hw.cell (p := ⟨w.heap.size, 3, none⟩) (show w.heap.size < _ by omega)).trans (by simp), (hw.cell (p := ⟨w.heap.size, 4, none⟩) (show w.heap.size < _ by omega)).trans (by simp), (hw.cell (p := ⟨w.heap.size, 5, none⟩) (show w.heap.size < _ by omega)).trans (by simp), (hw.cell (p := ⟨w.heap.size, 6, none⟩) (show w.heap.size < _ by omega)).trans (by simp), (hw.cell (p := ⟨w.heap.size, 7, none⟩) (show w.heap.size < _ by omega)).trans (by simp), (hw.cell (p := ⟨w.heap.size, 8, none⟩) (show w.heap.size < _ by omega)).trans (by simp), (hw.cell (p := ⟨w.heap.size, 9, none⟩) (show w.heap.size < _ by omega)).trans (by simp), (hw.cell (p := ⟨w.heap.size, 10, none⟩) (show w.heap.size < _ by omega)).trans (by simp)⟩
  have HHD : Hid (Handle w) := Lib.hid hh
  clear hh
  have hsz := w1
  by_cases hlong : (1048576 : Int) < (a1.size : Int)
  · go_enter Tryz.func8, Tryz.ntmps8
    go_wp2
    go_ret
    exact ⟨rfl, HB0.out⟩
  clear w1 w2 w3 w4
  go_enter Tryz.func8, Tryz.ntmps8
  go_wp2_with fail
  refine (szAcct_any w.heap.size (.slice AH0 hs0.length cH0) (.slice AC0 cs0.length cC0) (.slice AS0 ss0.length cS0) (.slice AL0 sl0.length cL0) (id0, lm0, ps0, mo0, su0, hs0, (sp0, hd0, cs0, ss0), sl0) 1048576 (w.alloc (.cells #[.string id0, .int .i64 lm0, .int .i64 ps0, .int .i64 mo0, .int .i64 su0, .slice AH0 hs0.length cH0, .int .i64 sp0, .int .i64 hd0, .slice AC0 cs0.length cC0, .slice AS0 ss0.length cS0, .slice AL0 sl0.length cL0] 59)) HY0.out (Rep.below (R := AcctR) HX0.out HB0.out (Nat.le_refl _)) (by first | omega | (simp <;> omega)) (by omega) (by omega)).mono ?_
  rintro e w101 ⟨r0, rfl, hr0, hb1⟩
  have zz101 : w.heap.size + 1 ≤ w101.heap.size := by have := hb1.size; simp at this; omega
  have hB1 : Below (w.heap.size + 1) (w.alloc (.cells #[.string id0, .int .i64 lm0, .int .i64 ps0, .int .i64 mo0, .int .i64 su0, .slice AH0 hs0.length cH0, .int .i64 sp0, .int .i64 hd0, .slice AC0 cs0.length cC0, .slice AS0 ss0.length cS0, .slice AL0 sl0.length cL0] 59)) w101 := hb1.mono (by simp <;> omega)
  have hw1 : Below w.heap.size w w101 := HB0.out.trans (hb1.mono (by simp <;> omega))
  replace HX0 := Lib.hid (Rep.below (R := AcctR) HX0.out hw1 (Nat.le_refl _))
  obtain ⟨x_0, x_1, x_2, x_3, x_4, x_5, x_6, x_7, x_8, x_9, x_10⟩ := HX.out w101 hB1
  rcases hr0 with rfl | ⟨hr0, hp0⟩
  · go_wp2
    go_ret
    exact ⟨rfl, (HB0.out.trans (hB1.mono (by first | omega | (simp <;> omega))))⟩
  have hxz0 : acctSz (id0, lm0, ps0, mo0, su0, hs0, (sp0, hd0, cs0, ss0), sl0) ≤ 1048576 := by omega
  have HS0 := Lib.hid (acct_small hxz0)
  have hq0 : r0 ≤ 1048576 := by omega
  have HR0 := Lib.hid hr0
  have HXZ0 := Lib.hid hxz0
  clear hr0 hxz0
  have hfa := acct_fit HXZ0.out
  have HK0 := Lib.hid hfa.2
  have hfw := few_fit (few_auth (id0, lm0, ps0, mo0, su0, hs0, (sp0, hd0, cs0, ss0), sl0) a1 a2 a3 a4)
  have HSP := Lib.hid (fun (hi : Nat) (vh vc vs vl : Value) (W : World) (h : AcctR.rd hi W (aCells (id0, lm0, ps0, mo0, su0, hs0, (sp0, hd0, cs0, ss0), sl0) vh vc vs vl) (id0, lm0, ps0, mo0, su0, hs0, (sp0, hd0, cs0, ss0), sl0)) (hh : hi ≤ W.heap.size) => specAuthorize_any hi vh vc vs vl (id0, lm0, ps0, mo0, su0, hs0, (sp0, hd0, cs0, ss0), sl0) a1 a2 a3 a4 W HS0.out HY0.out h hh hsz)
  have HIM := Lib.hid (fun (hi : Nat) (vh vc vs vl : Value) (W : World) (hg : Handle W) (h : AcctR.rd hi W (aCells (id0, lm0, ps0, mo0, su0, hs0, (sp0, hd0, cs0, ss0), sl0) vh vc vs vl) (id0, lm0, ps0, mo0, su0, hs0, (sp0, hd0, cs0, ss0), sl0)) (hh : hi ≤ W.heap.size) => implAuthorize_any hi vh vc vs vl (id0, lm0, ps0, mo0, su0, hs0, (sp0, hd0, cs0, ss0), sl0) a1 a2 a3 a4 W hg HS0.out HY0.out h hh hsz)
  generalize authL (id0, lm0, ps0, mo0, su0, hs0, (sp0, hd0, cs0, ss0), sl0) a1 a2 a3 a4 = wr at HSP HIM hfw
  obtain ⟨⟨id9, lm9, ps9, mo9, su9, hs9, ⟨sp9, hd9, cs9, ss9⟩, sl9⟩, wk⟩ := wr
  simp only [aId, aLim, aPos, aMost, aSum] at hfw HSP HIM
  have HS9 := Lib.hid hfw.1
  have HK9 := Lib.hid hfw.2
  clear hfa hfw
  go_wp2_with fail
  refine (toAcct_any w.heap.size (.slice AH0 hs0.length cH0) (.slice AC0 cs0.length cC0) (.slice AS0 ss0.length cS0) (.slice AL0 sl0.length cL0) (id0, lm0, ps0, mo0, su0, hs0, (sp0, hd0, cs0, ss0), sl0) w101 HS0.out HX0.out (by omega)).mono ?_
  rintro e w102 ⟨uh_2, uc_2, us_2, ul_2, rfl, hu2, hb2⟩
  obtain ⟨xh, xc, xs, xl, hcs, q1, q2, q3, q4⟩ := acct_rd hu2.rd
  simp only [aCells, List.cons.injEq, and_true, true_and] at hcs
  obtain ⟨rfl, rfl, rfl, rfl⟩ := hcs
  simp only [aH, aS] at q1 q2 q3 q4
  obtain ⟨AH_2, cH_2, rfl, -⟩ := Rep.slice_form q1
  obtain ⟨AC_2, cC_2, rfl, -⟩ := q2.form
  obtain ⟨AS_2, cS_2, rfl, -⟩ := q3.form
  obtain ⟨AL_2, cL_2, rfl, -⟩ := Rep.slice_form q4
  clear q1 q2 q3 q4
  simp only [aId, aLim, aPos, aMost, aSum]
  have zz102 : w101.heap.size ≤ w102.heap.size := hb2.size
  have hB2 := hB1.trans (hb2.mono (show w.heap.size + 1 ≤ _ by omega))
  replace HX0 := Lib.hid (Rep.below (R := AcctR) HX0.out hb2 (by omega))
  clear x_0 x_1 x_2 x_3 x_4 x_5 x_6 x_7 x_8 x_9 x_10
  obtain ⟨x_0, x_1, x_2, x_3, x_4, x_5, x_6, x_7, x_8, x_9, x_10⟩ := HX.out w102 hB2
  have H2 := Lib.hid hu2
  go_wp2_with fail
  refine (HSP.out _ (.slice AH_2 hs0.length cH_2) (.slice AC_2 cs0.length cC_2) (.slice AS_2 ss0.length cS_2) (.slice AL_2 sl0.length cL_2) w102 H2.out.rd (by omega)).mono ?_
  rintro e w103 ⟨uh_3, uc_3, us_3, ul_3, rfl, hu3, hb3⟩
  obtain ⟨xh, xc, xs, xl, hcs, q1, q2, q3, q4⟩ := acct_rd hu3.rd
  simp only [aCells, List.cons.injEq, and_true, true_and] at hcs
  obtain ⟨rfl, rfl, rfl, rfl⟩ := hcs
  simp only [aH, aS] at q1 q2 q3 q4
  obtain ⟨AH_3, cH_3, rfl, -⟩ := Rep.slice_form q1
  obtain ⟨AC_3, cC_3, rfl, -⟩ := q2.form
  obtain ⟨AS_3, cS_3, rfl, -⟩ := q3.form
  obtain ⟨AL_3, cL_3, rfl, -⟩ := Rep.slice_form q4
  clear q1 q2 q3 q4
  simp only [aId, aLim, aPos, aMost, aSum]
  have zz103 : w102.heap.size ≤ w103.heap.size := hb3.size
  have hB3 := hB2.trans (hb3.mono (show w.heap.size + 1 ≤ _ by omega))
  replace HX0 := Lib.hid (Rep.below (R := AcctR) HX0.out hb3 (by omega))
  replace H2 := Lib.hid (H2.out.below hb3 (by omega))
  clear x_0 x_1 x_2 x_3 x_4 x_5 x_6 x_7 x_8 x_9 x_10
  obtain ⟨x_0, x_1, x_2, x_3, x_4, x_5, x_6, x_7, x_8, x_9, x_10⟩ := HX.out w103 hB3
  have HW := Lib.hid hu3
  clear H2
  have yy3_0 : w.heap.size < w103.heap.size := by omega
  go_wp2_with fail
  have hb4 := (Below.refl w103.heap.size w103).alloc (Nat.le_refl _) (.cells #[.string id9, .int .i64 lm9, .int .i64 ps9, .int .i64 mo9, .int .i64 su9, .slice AH_3 hs9.length cH_3, .int .i64 sp9, .int .i64 hd9, .slice AC_3 cs9.length cC_3, .slice AS_3 ss9.length cS_3, .slice AL_3 sl9.length cL_3] 29)
  have hXW := heap_alloc_new w103 (.cells #[.string id9, .int .i64 lm9, .int .i64 ps9, .int .i64 mo9, .int .i64 su9, .slice AH_3 hs9.length cH_3, .int .i64 sp9, .int .i64 hd9, .slice AC_3 cs9.length cC_3, .slice AS_3 ss9.length cS_3, .slice AL_3 sl9.length cL_3] 29)
  generalize w103.alloc (.cells #[.string id9, .int .i64 lm9, .int .i64 ps9, .int .i64 mo9, .int .i64 su9, .slice AH_3 hs9.length cH_3, .int .i64 sp9, .int .i64 hd9, .slice AC_3 cs9.length cC_3, .slice AS_3 ss9.length cS_3, .slice AL_3 sl9.length cL_3] 29) = w104 at hb4 hXW ⊢
  have zz104 : w103.heap.size ≤ w104.heap.size := hb4.size
  have zl4 : w103.heap.size < w104.heap.size := lt_of_block hXW
  have hB4 := hB3.trans (hb4.mono (show w.heap.size + 1 ≤ _ by omega))
  replace HX0 := Lib.hid (Rep.below (R := AcctR) HX0.out hb4 (by omega))
  replace HW := Lib.hid (HW.out.below hb4 (by omega))
  have XW := Lib.hid hXW
  clear hXW
  clear x_0 x_1 x_2 x_3 x_4 x_5 x_6 x_7 x_8 x_9 x_10
  obtain ⟨x_0, x_1, x_2, x_3, x_4, x_5, x_6, x_7, x_8, x_9, x_10⟩ := HX.out w104 hB4
  have XWc0 := cell_of_row _ _ 0 _ _ (0, 0) XW.out
  have XWc1 := cell_of_row _ _ 1 _ _ (0, 0) XW.out
  have XWc2 := cell_of_row _ _ 2 _ _ (0, 0) XW.out
  have XWc3 := cell_of_row _ _ 3 _ _ (0, 0) XW.out
  have XWc4 := cell_of_row _ _ 4 _ _ (0, 0) XW.out
  have XWc5 := cell_of_row _ _ 5 _ _ (0, 0) XW.out
  have XWc6 := cell_of_row _ _ 6 _ _ (0, 0) XW.out
  have XWc7 := cell_of_row _ _ 7 _ _ (0, 0) XW.out
  have XWc8 := cell_of_row _ _ 8 _ _ (0, 0) XW.out
  have XWc9 := cell_of_row _ _ 9 _ _ (0, 0) XW.out
  have XWc10 := cell_of_row _ _ 10 _ _ (0, 0) XW.out
  simp only [List.getElem?_toArray, List.getElem?_cons_zero, List.getElem?_cons_succ] at XWc0 XWc1 XWc2 XWc3 XWc4 XWc5 XWc6 XWc7 XWc8 XWc9 XWc10
  go_wp2_with fail
  refine (toAcctI_any w.heap.size (.slice AH0 hs0.length cH0) (.slice AC0 cs0.length cC0) (.slice AS0 ss0.length cS0) (.slice AL0 sl0.length cL0) (id0, lm0, ps0, mo0, su0, hs0, (sp0, hd0, cs0, ss0), sl0) w104 HS0.out HX0.out (by omega)).mono ?_
  rintro e w105 ⟨uh_5, uc_5, us_5, ul_5, rfl, hu5, hb5⟩
  obtain ⟨xh, xc, xs, xl, hcs, q1, q2, q3, q4⟩ := acct_rd hu5.mine.rd
  simp only [aCells, List.cons.injEq, and_true, true_and] at hcs
  obtain ⟨rfl, rfl, rfl, rfl⟩ := hcs
  simp only [aH, aS] at q1 q2 q3 q4
  obtain ⟨AH_5, cH_5, rfl, -⟩ := Rep.slice_form q1
  obtain ⟨AC_5, cC_5, rfl, -⟩ := q2.form
  obtain ⟨AS_5, cS_5, rfl, -⟩ := q3.form
  obtain ⟨AL_5, cL_5, rfl, -⟩ := Rep.slice_form q4
  clear q1 q2 q3 q4
  simp only [aId, aLim, aPos, aMost, aSum]
  have zz105 : w104.heap.size ≤ w105.heap.size := hb5.size
  have hB5 := hB4.trans (hb5.mono (show w.heap.size + 1 ≤ _ by omega))
  replace HX0 := Lib.hid (Rep.below (R := AcctR) HX0.out hb5 (by omega))
  replace HW := Lib.hid (HW.out.below hb5 (by omega))
  replace XW := Lib.hid ((hb5.block _ (by omega)).trans XW.out)
  clear x_0 x_1 x_2 x_3 x_4 x_5 x_6 x_7 x_8 x_9 x_10
  obtain ⟨x_0, x_1, x_2, x_3, x_4, x_5, x_6, x_7, x_8, x_9, x_10⟩ := HX.out w105 hB5
  have H4 := Lib.hid hu5
  clear XWc0 XWc1 XWc2 XWc3 XWc4 XWc5 XWc6 XWc7 XWc8 XWc9 XWc10
  have XWc0 := cell_of_row _ _ 0 _ _ (0, 0) XW.out
  have XWc1 := cell_of_row _ _ 1 _ _ (0, 0) XW.out
  have XWc2 := cell_of_row _ _ 2 _ _ (0, 0) XW.out
  have XWc3 := cell_of_row _ _ 3 _ _ (0, 0) XW.out
  have XWc4 := cell_of_row _ _ 4 _ _ (0, 0) XW.out
  have XWc5 := cell_of_row _ _ 5 _ _ (0, 0) XW.out
  have XWc6 := cell_of_row _ _ 6 _ _ (0, 0) XW.out
  have XWc7 := cell_of_row _ _ 7 _ _ (0, 0) XW.out
  have XWc8 := cell_of_row _ _ 8 _ _ (0, 0) XW.out
  have XWc9 := cell_of_row _ _ 9 _ _ (0, 0) XW.out
  have XWc10 := cell_of_row _ _ 10 _ _ (0, 0) XW.out
  simp only [List.getElem?_toArray, List.getElem?_cons_zero, List.getElem?_cons_succ] at XWc0 XWc1 XWc2 XWc3 XWc4 XWc5 XWc6 XWc7 XWc8 XWc9 XWc10
  have yy5_0 : w.heap.size < w105.heap.size := by omega
  have yy5XW : w103.heap.size < w105.heap.size := by omega
  go_wp2_with fail
  have hb6 := (Below.refl w105.heap.size w105).alloc (Nat.le_refl _) (.cells #[.string id0, .int .i64 lm0, .int .i64 ps0, .int .i64 mo0, .int .i64 su0, .slice AH_5 hs0.length cH_5, .int .i64 sp0, .int .i64 hd0, .slice AC_5 cs0.length cC_5, .slice AS_5 ss0.length cS_5, .slice AL_5 sl0.length cL_5] 29)
  have hX4 := heap_alloc_new w105 (.cells #[.string id0, .int .i64 lm0, .int .i64 ps0, .int .i64 mo0, .int .i64 su0, .slice AH_5 hs0.length cH_5, .int .i64 sp0, .int .i64 hd0, .slice AC_5 cs0.length cC_5, .slice AS_5 ss0.length cS_5, .slice AL_5 sl0.length cL_5] 29)
  generalize w105.alloc (.cells #[.string id0, .int .i64 lm0, .int .i64 ps0, .int .i64 mo0, .int .i64 su0, .slice AH_5 hs0.length cH_5, .int .i64 sp0, .int .i64 hd0, .slice AC_5 cs0.length cC_5, .slice AS_5 ss0.length cS_5, .slice AL_5 sl0.length cL_5] 29) = w106 at hb6 hX4 ⊢
  have zz106 : w105.heap.size ≤ w106.heap.size := hb6.size
  have zl6 : w105.heap.size < w106.heap.size := lt_of_block hX4
  have hB6 := hB5.trans (hb6.mono (show w.heap.size + 1 ≤ _ by omega))
  replace HX0 := Lib.hid (Rep.below (R := AcctR) HX0.out hb6 (by omega))
  replace HW := Lib.hid (HW.out.below hb6 (by omega))
  replace XW := Lib.hid ((hb6.block _ (by omega)).trans XW.out)
  replace H4 := Lib.hid (H4.out.below hb6 (by omega))
  have X4 := Lib.hid hX4
  clear hX4
  clear x_0 x_1 x_2 x_3 x_4 x_5 x_6 x_7 x_8 x_9 x_10
  obtain ⟨x_0, x_1, x_2, x_3, x_4, x_5, x_6, x_7, x_8, x_9, x_10⟩ := HX.out w106 hB6
  have X4c0 := cell_of_row _ _ 0 _ _ (0, 0) X4.out
  have X4c1 := cell_of_row _ _ 1 _ _ (0, 0) X4.out
  have X4c2 := cell_of_row _ _ 2 _ _ (0, 0) X4.out
  have X4c3 := cell_of_row _ _ 3 _ _ (0, 0) X4.out
  have X4c4 := cell_of_row _ _ 4 _ _ (0, 0) X4.out
  have X4c5 := cell_of_row _ _ 5 _ _ (0, 0) X4.out
  have X4c6 := cell_of_row _ _ 6 _ _ (0, 0) X4.out
  have X4c7 := cell_of_row _ _ 7 _ _ (0, 0) X4.out
  have X4c8 := cell_of_row _ _ 8 _ _ (0, 0) X4.out
  have X4c9 := cell_of_row _ _ 9 _ _ (0, 0) X4.out
  have X4c10 := cell_of_row _ _ 10 _ _ (0, 0) X4.out
  simp only [List.getElem?_toArray, List.getElem?_cons_zero, List.getElem?_cons_succ] at X4c0 X4c1 X4c2 X4c3 X4c4 X4c5 X4c6 X4c7 X4c8 X4c9 X4c10
  go_wp2_with fail
  refine (HIM.out _ (.slice AH_5 hs0.length cH_5) (.slice AC_5 cs0.length cC_5) (.slice AS_5 ss0.length cS_5) (.slice AL_5 sl0.length cL_5) w106 (HHD.out.below (HB0.out.trans (hB6.mono (by first | omega | (simp <;> omega)))) (Nat.le_refl _)) H4.out.mine.rd (by omega)).mono ?_
  rintro e w107 ⟨uh_7, uc_7, us_7, ul_7, rfl, hu7, hb7⟩
  obtain ⟨xh, xc, xs, xl, hcs, q1, q2, q3, q4⟩ := acct_rd hu7.mine.rd
  simp only [aCells, List.cons.injEq, and_true, true_and] at hcs
  obtain ⟨rfl, rfl, rfl, rfl⟩ := hcs
  simp only [aH, aS] at q1 q2 q3 q4
  obtain ⟨AH_7, cH_7, rfl, -⟩ := Rep.slice_form q1
  obtain ⟨AC_7, cC_7, rfl, -⟩ := q2.form
  obtain ⟨AS_7, cS_7, rfl, -⟩ := q3.form
  obtain ⟨AL_7, cL_7, rfl, -⟩ := Rep.slice_form q4
  clear q1 q2 q3 q4
  simp only [aId, aLim, aPos, aMost, aSum]
  have zz107 : w106.heap.size ≤ w107.heap.size := hb7.size
  have hB7 := hB6.trans (hb7.mono (show w.heap.size + 1 ≤ _ by omega))
  replace HX0 := Lib.hid (Rep.below (R := AcctR) HX0.out hb7 (by omega))
  replace HW := Lib.hid (HW.out.below hb7 (by omega))
  replace XW := Lib.hid ((hb7.block _ (by omega)).trans XW.out)
  replace H4 := Lib.hid (H4.out.below hb7 (by omega))
  replace X4 := Lib.hid ((hb7.block _ (by omega)).trans X4.out)
  clear x_0 x_1 x_2 x_3 x_4 x_5 x_6 x_7 x_8 x_9 x_10
  obtain ⟨x_0, x_1, x_2, x_3, x_4, x_5, x_6, x_7, x_8, x_9, x_10⟩ := HX.out w107 hB7
  have HG := Lib.hid hu7
  clear XWc0 XWc1 XWc2 XWc3 XWc4 XWc5 XWc6 XWc7 XWc8 XWc9 XWc10
  clear X4c0 X4c1 X4c2 X4c3 X4c4 X4c5 X4c6 X4c7 X4c8 X4c9 X4c10
  have XWc0 := cell_of_row _ _ 0 _ _ (0, 0) XW.out
  have XWc1 := cell_of_row _ _ 1 _ _ (0, 0) XW.out
  have XWc2 := cell_of_row _ _ 2 _ _ (0, 0) XW.out
  have XWc3 := cell_of_row _ _ 3 _ _ (0, 0) XW.out
  have XWc4 := cell_of_row _ _ 4 _ _ (0, 0) XW.out
  have XWc5 := cell_of_row _ _ 5 _ _ (0, 0) XW.out
  have XWc6 := cell_of_row _ _ 6 _ _ (0, 0) XW.out
  have XWc7 := cell_of_row _ _ 7 _ _ (0, 0) XW.out
  have XWc8 := cell_of_row _ _ 8 _ _ (0, 0) XW.out
  have XWc9 := cell_of_row _ _ 9 _ _ (0, 0) XW.out
  have XWc10 := cell_of_row _ _ 10 _ _ (0, 0) XW.out
  simp only [List.getElem?_toArray, List.getElem?_cons_zero, List.getElem?_cons_succ] at XWc0 XWc1 XWc2 XWc3 XWc4 XWc5 XWc6 XWc7 XWc8 XWc9 XWc10
  have X4c0 := cell_of_row _ _ 0 _ _ (0, 0) X4.out
  have X4c1 := cell_of_row _ _ 1 _ _ (0, 0) X4.out
  have X4c2 := cell_of_row _ _ 2 _ _ (0, 0) X4.out
  have X4c3 := cell_of_row _ _ 3 _ _ (0, 0) X4.out
  have X4c4 := cell_of_row _ _ 4 _ _ (0, 0) X4.out
  have X4c5 := cell_of_row _ _ 5 _ _ (0, 0) X4.out
  have X4c6 := cell_of_row _ _ 6 _ _ (0, 0) X4.out
  have X4c7 := cell_of_row _ _ 7 _ _ (0, 0) X4.out
  have X4c8 := cell_of_row _ _ 8 _ _ (0, 0) X4.out
  have X4c9 := cell_of_row _ _ 9 _ _ (0, 0) X4.out
  have X4c10 := cell_of_row _ _ 10 _ _ (0, 0) X4.out
  simp only [List.getElem?_toArray, List.getElem?_cons_zero, List.getElem?_cons_succ] at X4c0 X4c1 X4c2 X4c3 X4c4 X4c5 X4c6 X4c7 X4c8 X4c9 X4c10
  have yy7_0 : w.heap.size < w107.heap.size := by omega
  have yy7XW : w103.heap.size < w107.heap.size := by omega
  have yy7X4 : w105.heap.size < w107.heap.size := by omega
  go_wp2_with fail
  have hb8 := (Below.refl w107.heap.size w107).alloc (Nat.le_refl _) (.cells #[.string id9, .int .i64 lm9, .int .i64 ps9, .int .i64 mo9, .int .i64 su9, .slice AH_7 hs9.length cH_7, .int .i64 sp9, .int .i64 hd9, .slice AC_7 cs9.length cC_7, .slice AS_7 ss9.length cS_7, .slice AL_7 sl9.length cL_7] 29)
  have hXG := heap_alloc_new w107 (.cells #[.string id9, .int .i64 lm9, .int .i64 ps9, .int .i64 mo9, .int .i64 su9, .slice AH_7 hs9.length cH_7, .int .i64 sp9, .int .i64 hd9, .slice AC_7 cs9.length cC_7, .slice AS_7 ss9.length cS_7, .slice AL_7 sl9.length cL_7] 29)
  generalize w107.alloc (.cells #[.string id9, .int .i64 lm9, .int .i64 ps9, .int .i64 mo9, .int .i64 su9, .slice AH_7 hs9.length cH_7, .int .i64 sp9, .int .i64 hd9, .slice AC_7 cs9.length cC_7, .slice AS_7 ss9.length cS_7, .slice AL_7 sl9.length cL_7] 29) = w108 at hb8 hXG ⊢
  have zz108 : w107.heap.size ≤ w108.heap.size := hb8.size
  have zl8 : w107.heap.size < w108.heap.size := lt_of_block hXG
  have hB8 := hB7.trans (hb8.mono (show w.heap.size + 1 ≤ _ by omega))
  replace HX0 := Lib.hid (Rep.below (R := AcctR) HX0.out hb8 (by omega))
  replace HW := Lib.hid (HW.out.below hb8 (by omega))
  replace XW := Lib.hid ((hb8.block _ (by omega)).trans XW.out)
  replace H4 := Lib.hid (H4.out.below hb8 (by omega))
  replace X4 := Lib.hid ((hb8.block _ (by omega)).trans X4.out)
  replace HG := Lib.hid (HG.out.below hb8 (by omega))
  have XG := Lib.hid hXG
  clear hXG
  clear x_0 x_1 x_2 x_3 x_4 x_5 x_6 x_7 x_8 x_9 x_10
  obtain ⟨x_0, x_1, x_2, x_3, x_4, x_5, x_6, x_7, x_8, x_9, x_10⟩ := HX.out w108 hB8
  have XGc0 := cell_of_row _ _ 0 _ _ (0, 0) XG.out
  have XGc1 := cell_of_row _ _ 1 _ _ (0, 0) XG.out
  have XGc2 := cell_of_row _ _ 2 _ _ (0, 0) XG.out
  have XGc3 := cell_of_row _ _ 3 _ _ (0, 0) XG.out
  have XGc4 := cell_of_row _ _ 4 _ _ (0, 0) XG.out
  have XGc5 := cell_of_row _ _ 5 _ _ (0, 0) XG.out
  have XGc6 := cell_of_row _ _ 6 _ _ (0, 0) XG.out
  have XGc7 := cell_of_row _ _ 7 _ _ (0, 0) XG.out
  have XGc8 := cell_of_row _ _ 8 _ _ (0, 0) XG.out
  have XGc9 := cell_of_row _ _ 9 _ _ (0, 0) XG.out
  have XGc10 := cell_of_row _ _ 10 _ _ (0, 0) XG.out
  simp only [List.getElem?_toArray, List.getElem?_cons_zero, List.getElem?_cons_succ] at XGc0 XGc1 XGc2 XGc3 XGc4 XGc5 XGc6 XGc7 XGc8 XGc9 XGc10
  go_wp2_with fail
  refine (eqAcct_any _ _ (.slice AH_7 hs9.length cH_7) (.slice AC_7 cs9.length cC_7) (.slice AS_7 ss9.length cS_7) (.slice AL_7 sl9.length cL_7) (.slice AH_3 hs9.length cH_3) (.slice AC_3 cs9.length cC_3) (.slice AS_3 ss9.length cS_3) (.slice AL_3 sl9.length cL_3) (id9, lm9, ps9, mo9, su9, hs9, (sp9, hd9, cs9, ss9), sl9) w108 HS9.out HG.out.mine.rd HW.out.rd (by omega) (by omega)).mono ?_
  rintro e w109 ⟨rfl, hb9⟩
  have zz109 : w108.heap.size ≤ w109.heap.size := hb9.size
  have hB9 := hB8.trans (hb9.mono (show w.heap.size + 1 ≤ _ by omega))
  replace HX0 := Lib.hid (Rep.below (R := AcctR) HX0.out hb9 (by omega))
  replace HW := Lib.hid (HW.out.below hb9 (by omega))
  replace XW := Lib.hid ((hb9.block _ (by omega)).trans XW.out)
  replace H4 := Lib.hid (H4.out.below hb9 (by omega))
  replace X4 := Lib.hid ((hb9.block _ (by omega)).trans X4.out)
  replace HG := Lib.hid (HG.out.below hb9 (by omega))
  replace XG := Lib.hid ((hb9.block _ (by omega)).trans XG.out)
  clear x_0 x_1 x_2 x_3 x_4 x_5 x_6 x_7 x_8 x_9 x_10
  obtain ⟨x_0, x_1, x_2, x_3, x_4, x_5, x_6, x_7, x_8, x_9, x_10⟩ := HX.out w109 hB9
  clear XWc0 XWc1 XWc2 XWc3 XWc4 XWc5 XWc6 XWc7 XWc8 XWc9 XWc10
  clear X4c0 X4c1 X4c2 X4c3 X4c4 X4c5 X4c6 X4c7 X4c8 X4c9 X4c10
  clear XGc0 XGc1 XGc2 XGc3 XGc4 XGc5 XGc6 XGc7 XGc8 XGc9 XGc10
  have XWc0 := cell_of_row _ _ 0 _ _ (0, 0) XW.out
  have XWc1 := cell_of_row _ _ 1 _ _ (0, 0) XW.out
  have XWc2 := cell_of_row _ _ 2 _ _ (0, 0) XW.out
  have XWc3 := cell_of_row _ _ 3 _ _ (0, 0) XW.out
  have XWc4 := cell_of_row _ _ 4 _ _ (0, 0) XW.out
  have XWc5 := cell_of_row _ _ 5 _ _ (0, 0) XW.out
  have XWc6 := cell_of_row _ _ 6 _ _ (0, 0) XW.out
  have XWc7 := cell_of_row _ _ 7 _ _ (0, 0) XW.out
  have XWc8 := cell_of_row _ _ 8 _ _ (0, 0) XW.out
  have XWc9 := cell_of_row _ _ 9 _ _ (0, 0) XW.out
  have XWc10 := cell_of_row _ _ 10 _ _ (0, 0) XW.out
  simp only [List.getElem?_toArray, List.getElem?_cons_zero, List.getElem?_cons_succ] at XWc0 XWc1 XWc2 XWc3 XWc4 XWc5 XWc6 XWc7 XWc8 XWc9 XWc10
  have X4c0 := cell_of_row _ _ 0 _ _ (0, 0) X4.out
  have X4c1 := cell_of_row _ _ 1 _ _ (0, 0) X4.out
  have X4c2 := cell_of_row _ _ 2 _ _ (0, 0) X4.out
  have X4c3 := cell_of_row _ _ 3 _ _ (0, 0) X4.out
  have X4c4 := cell_of_row _ _ 4 _ _ (0, 0) X4.out
  have X4c5 := cell_of_row _ _ 5 _ _ (0, 0) X4.out
  have X4c6 := cell_of_row _ _ 6 _ _ (0, 0) X4.out
  have X4c7 := cell_of_row _ _ 7 _ _ (0, 0) X4.out
  have X4c8 := cell_of_row _ _ 8 _ _ (0, 0) X4.out
  have X4c9 := cell_of_row _ _ 9 _ _ (0, 0) X4.out
  have X4c10 := cell_of_row _ _ 10 _ _ (0, 0) X4.out
  simp only [List.getElem?_toArray, List.getElem?_cons_zero, List.getElem?_cons_succ] at X4c0 X4c1 X4c2 X4c3 X4c4 X4c5 X4c6 X4c7 X4c8 X4c9 X4c10
  have XGc0 := cell_of_row _ _ 0 _ _ (0, 0) XG.out
  have XGc1 := cell_of_row _ _ 1 _ _ (0, 0) XG.out
  have XGc2 := cell_of_row _ _ 2 _ _ (0, 0) XG.out
  have XGc3 := cell_of_row _ _ 3 _ _ (0, 0) XG.out
  have XGc4 := cell_of_row _ _ 4 _ _ (0, 0) XG.out
  have XGc5 := cell_of_row _ _ 5 _ _ (0, 0) XG.out
  have XGc6 := cell_of_row _ _ 6 _ _ (0, 0) XG.out
  have XGc7 := cell_of_row _ _ 7 _ _ (0, 0) XG.out
  have XGc8 := cell_of_row _ _ 8 _ _ (0, 0) XG.out
  have XGc9 := cell_of_row _ _ 9 _ _ (0, 0) XG.out
  have XGc10 := cell_of_row _ _ 10 _ _ (0, 0) XG.out
  simp only [List.getElem?_toArray, List.getElem?_cons_zero, List.getElem?_cons_succ] at XGc0 XGc1 XGc2 XGc3 XGc4 XGc5 XGc6 XGc7 XGc8 XGc9 XGc10
  go_wp2
  have hD : Below w109.heap.size w109 w109.drew := (Below.refl _ _).drew
  have zD : w109.drew.heap.size = w109.heap.size := rfl
  go_region_held3 (fun V => V.cell? ⟨w105.heap.size, 0, none⟩ = some (.string id0) ∧ V.cell? ⟨w105.heap.size, 1, none⟩ = some (.int .i64 lm0) ∧ V.cell? ⟨w105.heap.size, 2, none⟩ = some (.int .i64 ps0) ∧ V.cell? ⟨w105.heap.size, 3, none⟩ = some (.int .i64 mo0) ∧ V.cell? ⟨w105.heap.size, 4, none⟩ = some (.int .i64 su0) ∧ V.cell? ⟨w105.heap.size, 5, none⟩ = some (.slice AH_5 hs0.length cH_5) ∧ V.cell? ⟨w105.heap.size, 6, none⟩ = some (.int .i64 sp0) ∧ V.cell? ⟨w105.heap.size, 7, none⟩ = some (.int .i64 hd0) ∧ V.cell? ⟨w105.heap.size, 8, none⟩ = some (.slice AC_5 cs0.length cC_5) ∧ V.cell? ⟨w105.heap.size, 9, none⟩ = some (.slice AS_5 ss0.length cS_5) ∧ V.cell? ⟨w105.heap.size, 10, none⟩ = some (.slice AL_5 sl0.length cL_5) ∧ V.cell? ⟨w.heap.size, 0, none⟩ = some (.string id0) ∧ V.cell? ⟨w.heap.size, 1, none⟩ = some (.int .i64 lm0) ∧ V.cell? ⟨w.heap.size, 2, none⟩ = some (.int .i64 ps0) ∧ V.cell? ⟨w.heap.size, 3, none⟩ = some (.int .i64 mo0) ∧ V.cell? ⟨w.heap.size, 4, none⟩ = some (.int .i64 su0) ∧ V.cell? ⟨w.heap.size, 5, none⟩ = some (.slice AH0 hs0.length cH0) ∧ V.cell? ⟨w.heap.size, 6, none⟩ = some (.int .i64 sp0) ∧ V.cell? ⟨w.heap.size, 7, none⟩ = some (.int .i64 hd0) ∧ V.cell? ⟨w.heap.size, 8, none⟩ = some (.slice AC0 cs0.length cC0) ∧ V.cell? ⟨w.heap.size, 9, none⟩ = some (.slice AS0 ss0.length cS0) ∧ V.cell? ⟨w.heap.size, 10, none⟩ = some (.slice AL0 sl0.length cL0)) (go_keep) (first | (go_at_call 38; refine (toAcct_any w.heap.size (.slice AH0 hs0.length cH0) (.slice AC0 cs0.length cC0) (.slice AS0 ss0.length cS0) (.slice AL0 sl0.length cL0) (id0, lm0, ps0, mo0, su0, hs0, (sp0, hd0, cs0, ss0), sl0) w109.drew HS0.out (Rep.below (R := AcctR) HX0.out hD (by omega)) (show w.heap.size ≤ w109.heap.size by omega)).mono ?_; rintro e w110 ⟨uhq, ucq, usq, ulq, rfl, huq, hbq⟩; obtain ⟨xh, xc, xs, xl, hcs, q1, q2, q3, q4⟩ := acct_rd huq.rd; simp only [aCells, List.cons.injEq, and_true, true_and] at hcs; obtain ⟨rfl, rfl, rfl, rfl⟩ := hcs; simp only [aH, aS] at q1 q2 q3 q4; obtain ⟨AHq, cHq, rfl, -⟩ := Rep.slice_form q1; obtain ⟨ACq, cCq, rfl, -⟩ := q2.form; obtain ⟨ASq, cSq, rfl, -⟩ := q3.form; obtain ⟨ALq, cLq, rfl, -⟩ := Rep.slice_form q4; clear q1 q2 q3 q4; have zq := hbq.size; have qa0 := (hbq.cell (p := ⟨w105.heap.size, 0, none⟩) (show w105.heap.size < _ by omega)).trans X4c0; have qa1 := (hbq.cell (p := ⟨w105.heap.size, 1, none⟩) (show w105.heap.size < _ by omega)).trans X4c1; have qa2 := (hbq.cell (p := ⟨w105.heap.size, 2, none⟩) (show w105.heap.size < _ by omega)).trans X4c2; have qa3 := (hbq.cell (p := ⟨w105.heap.size, 3, none⟩) (show w105.heap.size < _ by omega)).trans X4c3; have qa4 := (hbq.cell (p := ⟨w105.heap.size, 4, none⟩) (show w105.heap.size < _ by omega)).trans X4c4; have qa5 := (hbq.cell (p := ⟨w105.heap.size, 5, none⟩) (show w105.heap.size < _ by omega)).trans X4c5; have qa6 := (hbq.cell (p := ⟨w105.heap.size, 6, none⟩) (show w105.heap.size < _ by omega)).trans X4c6; have qa7 := (hbq.cell (p := ⟨w105.heap.size, 7, none⟩) (show w105.heap.size < _ by omega)).trans X4c7; have qa8 := (hbq.cell (p := ⟨w105.heap.size, 8, none⟩) (show w105.heap.size < _ by omega)).trans X4c8; have qa9 := (hbq.cell (p := ⟨w105.heap.size, 9, none⟩) (show w105.heap.size < _ by omega)).trans X4c9; have qa10 := (hbq.cell (p := ⟨w105.heap.size, 10, none⟩) (show w105.heap.size < _ by omega)).trans X4c10; have qa11 := (hbq.cell (p := ⟨w.heap.size, 0, none⟩) (show w.heap.size < _ by omega)).trans x_0; have qa12 := (hbq.cell (p := ⟨w.heap.size, 1, none⟩) (show w.heap.size < _ by omega)).trans x_1; have qa13 := (hbq.cell (p := ⟨w.heap.size, 2, none⟩) (show w.heap.size < _ by omega)).trans x_2; have qa14 := (hbq.cell (p := ⟨w.heap.size, 3, none⟩) (show w.heap.size < _ by omega)).trans x_3; have qa15 := (hbq.cell (p := ⟨w.heap.size, 4, none⟩) (show w.heap.size < _ by omega)).trans x_4; have qa16 := (hbq.cell (p := ⟨w.heap.size, 5, none⟩) (show w.heap.size < _ by omega)).trans x_5; have qa17 := (hbq.cell (p := ⟨w.heap.size, 6, none⟩) (show w.heap.size < _ by omega)).trans x_6; have qa18 := (hbq.cell (p := ⟨w.heap.size, 7, none⟩) (show w.heap.size < _ by omega)).trans x_7; have qa19 := (hbq.cell (p := ⟨w.heap.size, 8, none⟩) (show w.heap.size < _ by omega)).trans x_8; have qa20 := (hbq.cell (p := ⟨w.heap.size, 9, none⟩) (show w.heap.size < _ by omega)).trans x_9; have qa21 := (hbq.cell (p := ⟨w.heap.size, 10, none⟩) (show w.heap.size < _ by omega)).trans x_10) | (go_at_call 39; refine (eqAcct_any _ _ (.slice AH_5 hs0.length cH_5) (.slice AC_5 cs0.length cC_5) (.slice AS_5 ss0.length cS_5) (.slice AL_5 sl0.length cL_5) (.slice AHq hs0.length cHq) (.slice ACq cs0.length cCq) (.slice ASq ss0.length cSq) (.slice ALq sl0.length cLq) (id0, lm0, ps0, mo0, su0, hs0, (sp0, hd0, cs0, ss0), sl0) w110 HS0.out (Rep.below (R := AcctR) (Rep.below (R := AcctR) H4.out.mine.rd hD (by omega)) hbq (by omega)) huq.rd (by omega) (by omega)).mono ?_; rintro e w111 ⟨rfl, hbr⟩; have qb0 := (hbr.cell (p := ⟨w105.heap.size, 0, none⟩) (show w105.heap.size < _ by omega)).trans qa0; have qb1 := (hbr.cell (p := ⟨w105.heap.size, 1, none⟩) (show w105.heap.size < _ by omega)).trans qa1; have qb2 := (hbr.cell (p := ⟨w105.heap.size, 2, none⟩) (show w105.heap.size < _ by omega)).trans qa2; have qb3 := (hbr.cell (p := ⟨w105.heap.size, 3, none⟩) (show w105.heap.size < _ by omega)).trans qa3; have qb4 := (hbr.cell (p := ⟨w105.heap.size, 4, none⟩) (show w105.heap.size < _ by omega)).trans qa4; have qb5 := (hbr.cell (p := ⟨w105.heap.size, 5, none⟩) (show w105.heap.size < _ by omega)).trans qa5; have qb6 := (hbr.cell (p := ⟨w105.heap.size, 6, none⟩) (show w105.heap.size < _ by omega)).trans qa6; have qb7 := (hbr.cell (p := ⟨w105.heap.size, 7, none⟩) (show w105.heap.size < _ by omega)).trans qa7; have qb8 := (hbr.cell (p := ⟨w105.heap.size, 8, none⟩) (show w105.heap.size < _ by omega)).trans qa8; have qb9 := (hbr.cell (p := ⟨w105.heap.size, 9, none⟩) (show w105.heap.size < _ by omega)).trans qa9; have qb10 := (hbr.cell (p := ⟨w105.heap.size, 10, none⟩) (show w105.heap.size < _ by omega)).trans qa10; have qb11 := (hbr.cell (p := ⟨w.heap.size, 0, none⟩) (show w.heap.size < _ by omega)).trans qa11; have qb12 := (hbr.cell (p := ⟨w.heap.size, 1, none⟩) (show w.heap.size < _ by omega)).trans qa12; have qb13 := (hbr.cell (p := ⟨w.heap.size, 2, none⟩) (show w.heap.size < _ by omega)).trans qa13; have qb14 := (hbr.cell (p := ⟨w.heap.size, 3, none⟩) (show w.heap.size < _ by omega)).trans qa14; have qb15 := (hbr.cell (p := ⟨w.heap.size, 4, none⟩) (show w.heap.size < _ by omega)).trans qa15; have qb16 := (hbr.cell (p := ⟨w.heap.size, 5, none⟩) (show w.heap.size < _ by omega)).trans qa16; have qb17 := (hbr.cell (p := ⟨w.heap.size, 6, none⟩) (show w.heap.size < _ by omega)).trans qa17; have qb18 := (hbr.cell (p := ⟨w.heap.size, 7, none⟩) (show w.heap.size < _ by omega)).trans qa18; have qb19 := (hbr.cell (p := ⟨w.heap.size, 8, none⟩) (show w.heap.size < _ by omega)).trans qa19; have qb20 := (hbr.cell (p := ⟨w.heap.size, 9, none⟩) (show w.heap.size < _ by omega)).trans qa20; have qb21 := (hbr.cell (p := ⟨w.heap.size, 10, none⟩) (show w.heap.size < _ by omega)).trans qa21) | fail)
  have hb11 : Below w109.heap.size w109 w111 := (hD.trans (hbq.mono (show w109.heap.size ≤ _ by omega))).trans (hbr.mono (show w109.heap.size ≤ _ by omega))
  have hB11 := hB9.trans (hb11.mono (show w.heap.size + 1 ≤ _ by omega))
  have zz111 : w109.heap.size ≤ w111.heap.size := hb11.size
  clear hbq hbr huq qa0 qb0 qa1 qb1 qa2 qb2 qa3 qb3 qa4 qb4 qa5 qb5 qa6 qb6 qa7 qb7 qa8 qb8 qa9 qb9 qa10 qb10 qa11 qb11 qa12 qb12 qa13 qb13 qa14 qb14 qa15 qb15 qa16 qb16 qa17 qb17 qa18 qb18 qa19 qb19 qa20 qb20 qa21 qb21 hD zD
  replace HX0 := Lib.hid (Rep.below (R := AcctR) HX0.out hb11 (by omega))
  replace HW := Lib.hid (HW.out.below hb11 (by omega))
  replace XW := Lib.hid ((hb11.block _ (by omega)).trans XW.out)
  replace H4 := Lib.hid (H4.out.below hb11 (by omega))
  replace X4 := Lib.hid ((hb11.block _ (by omega)).trans X4.out)
  replace HG := Lib.hid (HG.out.below hb11 (by omega))
  replace XG := Lib.hid ((hb11.block _ (by omega)).trans XG.out)
  clear x_0 x_1 x_2 x_3 x_4 x_5 x_6 x_7 x_8 x_9 x_10
  obtain ⟨x_0, x_1, x_2, x_3, x_4, x_5, x_6, x_7, x_8, x_9, x_10⟩ := HX.out w111 hB11
  clear XWc0 XWc1 XWc2 XWc3 XWc4 XWc5 XWc6 XWc7 XWc8 XWc9 XWc10
  clear X4c0 X4c1 X4c2 X4c3 X4c4 X4c5 X4c6 X4c7 X4c8 X4c9 X4c10
  clear XGc0 XGc1 XGc2 XGc3 XGc4 XGc5 XGc6 XGc7 XGc8 XGc9 XGc10
  have XWc0 := cell_of_row _ _ 0 _ _ (0, 0) XW.out
  have XWc1 := cell_of_row _ _ 1 _ _ (0, 0) XW.out
  have XWc2 := cell_of_row _ _ 2 _ _ (0, 0) XW.out
  have XWc3 := cell_of_row _ _ 3 _ _ (0, 0) XW.out
  have XWc4 := cell_of_row _ _ 4 _ _ (0, 0) XW.out
  have XWc5 := cell_of_row _ _ 5 _ _ (0, 0) XW.out
  have XWc6 := cell_of_row _ _ 6 _ _ (0, 0) XW.out
  have XWc7 := cell_of_row _ _ 7 _ _ (0, 0) XW.out
  have XWc8 := cell_of_row _ _ 8 _ _ (0, 0) XW.out
  have XWc9 := cell_of_row _ _ 9 _ _ (0, 0) XW.out
  have XWc10 := cell_of_row _ _ 10 _ _ (0, 0) XW.out
  simp only [List.getElem?_toArray, List.getElem?_cons_zero, List.getElem?_cons_succ] at XWc0 XWc1 XWc2 XWc3 XWc4 XWc5 XWc6 XWc7 XWc8 XWc9 XWc10
  have X4c0 := cell_of_row _ _ 0 _ _ (0, 0) X4.out
  have X4c1 := cell_of_row _ _ 1 _ _ (0, 0) X4.out
  have X4c2 := cell_of_row _ _ 2 _ _ (0, 0) X4.out
  have X4c3 := cell_of_row _ _ 3 _ _ (0, 0) X4.out
  have X4c4 := cell_of_row _ _ 4 _ _ (0, 0) X4.out
  have X4c5 := cell_of_row _ _ 5 _ _ (0, 0) X4.out
  have X4c6 := cell_of_row _ _ 6 _ _ (0, 0) X4.out
  have X4c7 := cell_of_row _ _ 7 _ _ (0, 0) X4.out
  have X4c8 := cell_of_row _ _ 8 _ _ (0, 0) X4.out
  have X4c9 := cell_of_row _ _ 9 _ _ (0, 0) X4.out
  have X4c10 := cell_of_row _ _ 10 _ _ (0, 0) X4.out
  simp only [List.getElem?_toArray, List.getElem?_cons_zero, List.getElem?_cons_succ] at X4c0 X4c1 X4c2 X4c3 X4c4 X4c5 X4c6 X4c7 X4c8 X4c9 X4c10
  have XGc0 := cell_of_row _ _ 0 _ _ (0, 0) XG.out
  have XGc1 := cell_of_row _ _ 1 _ _ (0, 0) XG.out
  have XGc2 := cell_of_row _ _ 2 _ _ (0, 0) XG.out
  have XGc3 := cell_of_row _ _ 3 _ _ (0, 0) XG.out
  have XGc4 := cell_of_row _ _ 4 _ _ (0, 0) XG.out
  have XGc5 := cell_of_row _ _ 5 _ _ (0, 0) XG.out
  have XGc6 := cell_of_row _ _ 6 _ _ (0, 0) XG.out
  have XGc7 := cell_of_row _ _ 7 _ _ (0, 0) XG.out
  have XGc8 := cell_of_row _ _ 8 _ _ (0, 0) XG.out
  have XGc9 := cell_of_row _ _ 9 _ _ (0, 0) XG.out
  have XGc10 := cell_of_row _ _ 10 _ _ (0, 0) XG.out
  simp only [List.getElem?_toArray, List.getElem?_cons_zero, List.getElem?_cons_succ] at XGc0 XGc1 XGc2 XGc3 XGc4 XGc5 XGc6 XGc7 XGc8 XGc9 XGc10
  go_wp2_with fail
  refine (markAcct_any _ _ (.slice AH_5 hs0.length cH_5) (.slice AC_5 cs0.length cC_5) (.slice AS_5 ss0.length cS_5) (.slice AL_5 sl0.length cL_5) (id0, lm0, ps0, mo0, su0, hs0, (sp0, hd0, cs0, ss0), sl0) w111 HS0.out HK0.out H4.out (by omega)).mono ?_
  rintro e w112 ⟨rfl, hmk12, ht12⟩
  have zz112 : w111.heap.size ≤ w112.heap.size := ht12.size
  have hB12 := hB11.trans (ht12.below (show w.heap.size + 1 ≤ _ by omega) (by omega))
  replace HX0 := Lib.hid (Rep.turned (R := AcctR) HX0.out ht12 (by omega) (by omega))
  replace HW := Lib.hid (HW.out.turned ht12 (by omega) (by omega))
  replace XW := Lib.hid ((ht12.block _ (by omega) (by omega)).trans XW.out)
  replace X4 := Lib.hid ((ht12.block _ (by omega) (by omega)).trans X4.out)
  replace HG := Lib.hid (HG.out.turned ht12 (by omega) (by omega))
  replace XG := Lib.hid ((ht12.block _ (by omega) (by omega)).trans XG.out)
  clear H4
  clear x_0 x_1 x_2 x_3 x_4 x_5 x_6 x_7 x_8 x_9 x_10
  obtain ⟨x_0, x_1, x_2, x_3, x_4, x_5, x_6, x_7, x_8, x_9, x_10⟩ := HX.out w112 hB12
  clear XWc0 XWc1 XWc2 XWc3 XWc4 XWc5 XWc6 XWc7 XWc8 XWc9 XWc10
  clear X4c0 X4c1 X4c2 X4c3 X4c4 X4c5 X4c6 X4c7 X4c8 X4c9 X4c10
  clear XGc0 XGc1 XGc2 XGc3 XGc4 XGc5 XGc6 XGc7 XGc8 XGc9 XGc10
  have XWc0 := cell_of_row _ _ 0 _ _ (0, 0) XW.out
  have XWc1 := cell_of_row _ _ 1 _ _ (0, 0) XW.out
  have XWc2 := cell_of_row _ _ 2 _ _ (0, 0) XW.out
  have XWc3 := cell_of_row _ _ 3 _ _ (0, 0) XW.out
  have XWc4 := cell_of_row _ _ 4 _ _ (0, 0) XW.out
  have XWc5 := cell_of_row _ _ 5 _ _ (0, 0) XW.out
  have XWc6 := cell_of_row _ _ 6 _ _ (0, 0) XW.out
  have XWc7 := cell_of_row _ _ 7 _ _ (0, 0) XW.out
  have XWc8 := cell_of_row _ _ 8 _ _ (0, 0) XW.out
  have XWc9 := cell_of_row _ _ 9 _ _ (0, 0) XW.out
  have XWc10 := cell_of_row _ _ 10 _ _ (0, 0) XW.out
  simp only [List.getElem?_toArray, List.getElem?_cons_zero, List.getElem?_cons_succ] at XWc0 XWc1 XWc2 XWc3 XWc4 XWc5 XWc6 XWc7 XWc8 XWc9 XWc10
  have X4c0 := cell_of_row _ _ 0 _ _ (0, 0) X4.out
  have X4c1 := cell_of_row _ _ 1 _ _ (0, 0) X4.out
  have X4c2 := cell_of_row _ _ 2 _ _ (0, 0) X4.out
  have X4c3 := cell_of_row _ _ 3 _ _ (0, 0) X4.out
  have X4c4 := cell_of_row _ _ 4 _ _ (0, 0) X4.out
  have X4c5 := cell_of_row _ _ 5 _ _ (0, 0) X4.out
  have X4c6 := cell_of_row _ _ 6 _ _ (0, 0) X4.out
  have X4c7 := cell_of_row _ _ 7 _ _ (0, 0) X4.out
  have X4c8 := cell_of_row _ _ 8 _ _ (0, 0) X4.out
  have X4c9 := cell_of_row _ _ 9 _ _ (0, 0) X4.out
  have X4c10 := cell_of_row _ _ 10 _ _ (0, 0) X4.out
  simp only [List.getElem?_toArray, List.getElem?_cons_zero, List.getElem?_cons_succ] at X4c0 X4c1 X4c2 X4c3 X4c4 X4c5 X4c6 X4c7 X4c8 X4c9 X4c10
  have XGc0 := cell_of_row _ _ 0 _ _ (0, 0) XG.out
  have XGc1 := cell_of_row _ _ 1 _ _ (0, 0) XG.out
  have XGc2 := cell_of_row _ _ 2 _ _ (0, 0) XG.out
  have XGc3 := cell_of_row _ _ 3 _ _ (0, 0) XG.out
  have XGc4 := cell_of_row _ _ 4 _ _ (0, 0) XG.out
  have XGc5 := cell_of_row _ _ 5 _ _ (0, 0) XG.out
  have XGc6 := cell_of_row _ _ 6 _ _ (0, 0) XG.out
  have XGc7 := cell_of_row _ _ 7 _ _ (0, 0) XG.out
  have XGc8 := cell_of_row _ _ 8 _ _ (0, 0) XG.out
  have XGc9 := cell_of_row _ _ 9 _ _ (0, 0) XG.out
  have XGc10 := cell_of_row _ _ 10 _ _ (0, 0) XG.out
  simp only [List.getElem?_toArray, List.getElem?_cons_zero, List.getElem?_cons_succ] at XGc0 XGc1 XGc2 XGc3 XGc4 XGc5 XGc6 XGc7 XGc8 XGc9 XGc10
  have kka := kAcct_up (id0, lm0, ps0, mo0, su0, hs0, (sp0, hd0, cs0, ss0), sl0)
  generalize kAcct (id0, lm0, ps0, mo0, su0, hs0, (sp0, hd0, cs0, ss0), sl0) 1 = Ka at kka ⊢
  have kka0 : ¬ (Ka < 0) := by omega
  go_wp2_with fail
  refine (eqAcct_any _ _ (.slice AH_7 hs9.length cH_7) (.slice AC_7 cs9.length cC_7) (.slice AS_7 ss9.length cS_7) (.slice AL_7 sl9.length cL_7) (.slice AH_3 hs9.length cH_3) (.slice AC_3 cs9.length cC_3) (.slice AS_3 ss9.length cS_3) (.slice AL_3 sl9.length cL_3) (id9, lm9, ps9, mo9, su9, hs9, (sp9, hd9, cs9, ss9), sl9) w112 HS9.out HG.out.mine.rd HW.out.rd (by omega) (by omega)).mono ?_
  rintro e w113 ⟨rfl, hb13⟩
  have zz113 : w112.heap.size ≤ w113.heap.size := hb13.size
  have hB13 := hB12.trans (hb13.mono (show w.heap.size + 1 ≤ _ by omega))
  replace HX0 := Lib.hid (Rep.below (R := AcctR) HX0.out hb13 (by omega))
  replace HW := Lib.hid (HW.out.below hb13 (by omega))
  replace XW := Lib.hid ((hb13.block _ (by omega)).trans XW.out)
  replace X4 := Lib.hid ((hb13.block _ (by omega)).trans X4.out)
  replace HG := Lib.hid (HG.out.below hb13 (by omega))
  replace XG := Lib.hid ((hb13.block _ (by omega)).trans XG.out)
  clear x_0 x_1 x_2 x_3 x_4 x_5 x_6 x_7 x_8 x_9 x_10
  obtain ⟨x_0, x_1, x_2, x_3, x_4, x_5, x_6, x_7, x_8, x_9, x_10⟩ := HX.out w113 hB13
  clear XWc0 XWc1 XWc2 XWc3 XWc4 XWc5 XWc6 XWc7 XWc8 XWc9 XWc10
  clear X4c0 X4c1 X4c2 X4c3 X4c4 X4c5 X4c6 X4c7 X4c8 X4c9 X4c10
  clear XGc0 XGc1 XGc2 XGc3 XGc4 XGc5 XGc6 XGc7 XGc8 XGc9 XGc10
  have XWc0 := cell_of_row _ _ 0 _ _ (0, 0) XW.out
  have XWc1 := cell_of_row _ _ 1 _ _ (0, 0) XW.out
  have XWc2 := cell_of_row _ _ 2 _ _ (0, 0) XW.out
  have XWc3 := cell_of_row _ _ 3 _ _ (0, 0) XW.out
  have XWc4 := cell_of_row _ _ 4 _ _ (0, 0) XW.out
  have XWc5 := cell_of_row _ _ 5 _ _ (0, 0) XW.out
  have XWc6 := cell_of_row _ _ 6 _ _ (0, 0) XW.out
  have XWc7 := cell_of_row _ _ 7 _ _ (0, 0) XW.out
  have XWc8 := cell_of_row _ _ 8 _ _ (0, 0) XW.out
  have XWc9 := cell_of_row _ _ 9 _ _ (0, 0) XW.out
  have XWc10 := cell_of_row _ _ 10 _ _ (0, 0) XW.out
  simp only [List.getElem?_toArray, List.getElem?_cons_zero, List.getElem?_cons_succ] at XWc0 XWc1 XWc2 XWc3 XWc4 XWc5 XWc6 XWc7 XWc8 XWc9 XWc10
  have X4c0 := cell_of_row _ _ 0 _ _ (0, 0) X4.out
  have X4c1 := cell_of_row _ _ 1 _ _ (0, 0) X4.out
  have X4c2 := cell_of_row _ _ 2 _ _ (0, 0) X4.out
  have X4c3 := cell_of_row _ _ 3 _ _ (0, 0) X4.out
  have X4c4 := cell_of_row _ _ 4 _ _ (0, 0) X4.out
  have X4c5 := cell_of_row _ _ 5 _ _ (0, 0) X4.out
  have X4c6 := cell_of_row _ _ 6 _ _ (0, 0) X4.out
  have X4c7 := cell_of_row _ _ 7 _ _ (0, 0) X4.out
  have X4c8 := cell_of_row _ _ 8 _ _ (0, 0) X4.out
  have X4c9 := cell_of_row _ _ 9 _ _ (0, 0) X4.out
  have X4c10 := cell_of_row _ _ 10 _ _ (0, 0) X4.out
  simp only [List.getElem?_toArray, List.getElem?_cons_zero, List.getElem?_cons_succ] at X4c0 X4c1 X4c2 X4c3 X4c4 X4c5 X4c6 X4c7 X4c8 X4c9 X4c10
  have XGc0 := cell_of_row _ _ 0 _ _ (0, 0) XG.out
  have XGc1 := cell_of_row _ _ 1 _ _ (0, 0) XG.out
  have XGc2 := cell_of_row _ _ 2 _ _ (0, 0) XG.out
  have XGc3 := cell_of_row _ _ 3 _ _ (0, 0) XG.out
  have XGc4 := cell_of_row _ _ 4 _ _ (0, 0) XG.out
  have XGc5 := cell_of_row _ _ 5 _ _ (0, 0) XG.out
  have XGc6 := cell_of_row _ _ 6 _ _ (0, 0) XG.out
  have XGc7 := cell_of_row _ _ 7 _ _ (0, 0) XG.out
  have XGc8 := cell_of_row _ _ 8 _ _ (0, 0) XG.out
  have XGc9 := cell_of_row _ _ 9 _ _ (0, 0) XG.out
  have XGc10 := cell_of_row _ _ 10 _ _ (0, 0) XG.out
  simp only [List.getElem?_toArray, List.getElem?_cons_zero, List.getElem?_cons_succ] at XGc0 XGc1 XGc2 XGc3 XGc4 XGc5 XGc6 XGc7 XGc8 XGc9 XGc10
  go_wp2_with fail
  refine (markAcct_any _ _ (.slice AH_7 hs9.length cH_7) (.slice AC_7 cs9.length cC_7) (.slice AS_7 ss9.length cS_7) (.slice AL_7 sl9.length cL_7) (id9, lm9, ps9, mo9, su9, hs9, (sp9, hd9, cs9, ss9), sl9) w113 HS9.out HK9.out HG.out (by omega)).mono ?_
  rintro e w114 ⟨rfl, hmk14, ht14⟩
  have zz114 : w113.heap.size ≤ w114.heap.size := ht14.size
  have hB14 := hB13.trans (ht14.below (show w.heap.size + 1 ≤ _ by omega) (by omega))
  replace HX0 := Lib.hid (Rep.turned (R := AcctR) HX0.out ht14 (by omega) (by omega))
  replace HW := Lib.hid (HW.out.turned ht14 (by omega) (by omega))
  replace XW := Lib.hid ((ht14.block _ (by omega) (by omega)).trans XW.out)
  replace X4 := Lib.hid ((ht14.block _ (by omega) (by omega)).trans X4.out)
  replace XG := Lib.hid ((ht14.block _ (by omega) (by omega)).trans XG.out)
  clear HG
  clear x_0 x_1 x_2 x_3 x_4 x_5 x_6 x_7 x_8 x_9 x_10
  obtain ⟨x_0, x_1, x_2, x_3, x_4, x_5, x_6, x_7, x_8, x_9, x_10⟩ := HX.out w114 hB14
  have HM := Lib.hid hmk14
  clear XWc0 XWc1 XWc2 XWc3 XWc4 XWc5 XWc6 XWc7 XWc8 XWc9 XWc10
  clear X4c0 X4c1 X4c2 X4c3 X4c4 X4c5 X4c6 X4c7 X4c8 X4c9 X4c10
  clear XGc0 XGc1 XGc2 XGc3 XGc4 XGc5 XGc6 XGc7 XGc8 XGc9 XGc10
  have XWc0 := cell_of_row _ _ 0 _ _ (0, 0) XW.out
  have XWc1 := cell_of_row _ _ 1 _ _ (0, 0) XW.out
  have XWc2 := cell_of_row _ _ 2 _ _ (0, 0) XW.out
  have XWc3 := cell_of_row _ _ 3 _ _ (0, 0) XW.out
  have XWc4 := cell_of_row _ _ 4 _ _ (0, 0) XW.out
  have XWc5 := cell_of_row _ _ 5 _ _ (0, 0) XW.out
  have XWc6 := cell_of_row _ _ 6 _ _ (0, 0) XW.out
  have XWc7 := cell_of_row _ _ 7 _ _ (0, 0) XW.out
  have XWc8 := cell_of_row _ _ 8 _ _ (0, 0) XW.out
  have XWc9 := cell_of_row _ _ 9 _ _ (0, 0) XW.out
  have XWc10 := cell_of_row _ _ 10 _ _ (0, 0) XW.out
  simp only [List.getElem?_toArray, List.getElem?_cons_zero, List.getElem?_cons_succ] at XWc0 XWc1 XWc2 XWc3 XWc4 XWc5 XWc6 XWc7 XWc8 XWc9 XWc10
  have X4c0 := cell_of_row _ _ 0 _ _ (0, 0) X4.out
  have X4c1 := cell_of_row _ _ 1 _ _ (0, 0) X4.out
  have X4c2 := cell_of_row _ _ 2 _ _ (0, 0) X4.out
  have X4c3 := cell_of_row _ _ 3 _ _ (0, 0) X4.out
  have X4c4 := cell_of_row _ _ 4 _ _ (0, 0) X4.out
  have X4c5 := cell_of_row _ _ 5 _ _ (0, 0) X4.out
  have X4c6 := cell_of_row _ _ 6 _ _ (0, 0) X4.out
  have X4c7 := cell_of_row _ _ 7 _ _ (0, 0) X4.out
  have X4c8 := cell_of_row _ _ 8 _ _ (0, 0) X4.out
  have X4c9 := cell_of_row _ _ 9 _ _ (0, 0) X4.out
  have X4c10 := cell_of_row _ _ 10 _ _ (0, 0) X4.out
  simp only [List.getElem?_toArray, List.getElem?_cons_zero, List.getElem?_cons_succ] at X4c0 X4c1 X4c2 X4c3 X4c4 X4c5 X4c6 X4c7 X4c8 X4c9 X4c10
  have XGc0 := cell_of_row _ _ 0 _ _ (0, 0) XG.out
  have XGc1 := cell_of_row _ _ 1 _ _ (0, 0) XG.out
  have XGc2 := cell_of_row _ _ 2 _ _ (0, 0) XG.out
  have XGc3 := cell_of_row _ _ 3 _ _ (0, 0) XG.out
  have XGc4 := cell_of_row _ _ 4 _ _ (0, 0) XG.out
  have XGc5 := cell_of_row _ _ 5 _ _ (0, 0) XG.out
  have XGc6 := cell_of_row _ _ 6 _ _ (0, 0) XG.out
  have XGc7 := cell_of_row _ _ 7 _ _ (0, 0) XG.out
  have XGc8 := cell_of_row _ _ 8 _ _ (0, 0) XG.out
  have XGc9 := cell_of_row _ _ 9 _ _ (0, 0) XG.out
  have XGc10 := cell_of_row _ _ 10 _ _ (0, 0) XG.out
  simp only [List.getElem?_toArray, List.getElem?_cons_zero, List.getElem?_cons_succ] at XGc0 XGc1 XGc2 XGc3 XGc4 XGc5 XGc6 XGc7 XGc8 XGc9 XGc10
  have HHE := Lib.hid (fun W hi (h : AcctR.rd hi W (aCells (acctMark (id9, lm9, ps9, mo9, su9, hs9, (sp9, hd9, cs9, ss9), sl9) 1) (.slice AH_7 hs9.length cH_7) (.slice AC_7 cs9.length cC_7) (.slice AS_7 ss9.length cS_7) (.slice AL_7 sl9.length cL_7)) (acctMark (id9, lm9, ps9, mo9, su9, hs9, (sp9, hd9, cs9, ss9), sl9) 1)) (hh : hi ≤ W.heap.size) => heldAcct_any hi (.slice AH_7 hs9.length cH_7) (.slice AC_7 cs9.length cC_7) (.slice AS_7 ss9.length cS_7) (.slice AL_7 sl9.length cL_7) (id9, lm9, ps9, mo9, su9, hs9, (sp9, hd9, cs9, ss9), sl9) W HS9.out HK9.out h hh)
  have kk := kAcct_up (id9, lm9, ps9, mo9, su9, hs9, (sp9, hd9, cs9, ss9), sl9)
  generalize kAcct (id9, lm9, ps9, mo9, su9, hs9, (sp9, hd9, cs9, ss9), sl9) 1 = K0 at HHE kk ⊢
  have kk0 : ¬ (K0 < 0) := by omega
  go_wp2_with fail
  refine (HHE.out w114 _ HM.out.mine.rd (by omega)).mono ?_
  rintro e w115 ⟨rfl, hb15⟩
  have zz115 : w114.heap.size ≤ w115.heap.size := hb15.size
  have hB15 := hB14.trans (hb15.mono (show w.heap.size + 1 ≤ _ by omega))
  replace HX0 := Lib.hid (Rep.below (R := AcctR) HX0.out hb15 (by omega))
  replace HW := Lib.hid (HW.out.below hb15 (by omega))
  replace XW := Lib.hid ((hb15.block _ (by omega)).trans XW.out)
  replace X4 := Lib.hid ((hb15.block _ (by omega)).trans X4.out)
  replace XG := Lib.hid ((hb15.block _ (by omega)).trans XG.out)
  replace HM := Lib.hid (HM.out.below hb15 (by omega))
  clear x_0 x_1 x_2 x_3 x_4 x_5 x_6 x_7 x_8 x_9 x_10
  obtain ⟨x_0, x_1, x_2, x_3, x_4, x_5, x_6, x_7, x_8, x_9, x_10⟩ := HX.out w115 hB15
  clear XWc0 XWc1 XWc2 XWc3 XWc4 XWc5 XWc6 XWc7 XWc8 XWc9 XWc10
  clear X4c0 X4c1 X4c2 X4c3 X4c4 X4c5 X4c6 X4c7 X4c8 X4c9 X4c10
  clear XGc0 XGc1 XGc2 XGc3 XGc4 XGc5 XGc6 XGc7 XGc8 XGc9 XGc10
  have XWc0 := cell_of_row _ _ 0 _ _ (0, 0) XW.out
  have XWc1 := cell_of_row _ _ 1 _ _ (0, 0) XW.out
  have XWc2 := cell_of_row _ _ 2 _ _ (0, 0) XW.out
  have XWc3 := cell_of_row _ _ 3 _ _ (0, 0) XW.out
  have XWc4 := cell_of_row _ _ 4 _ _ (0, 0) XW.out
  have XWc5 := cell_of_row _ _ 5 _ _ (0, 0) XW.out
  have XWc6 := cell_of_row _ _ 6 _ _ (0, 0) XW.out
  have XWc7 := cell_of_row _ _ 7 _ _ (0, 0) XW.out
  have XWc8 := cell_of_row _ _ 8 _ _ (0, 0) XW.out
  have XWc9 := cell_of_row _ _ 9 _ _ (0, 0) XW.out
  have XWc10 := cell_of_row _ _ 10 _ _ (0, 0) XW.out
  simp only [List.getElem?_toArray, List.getElem?_cons_zero, List.getElem?_cons_succ] at XWc0 XWc1 XWc2 XWc3 XWc4 XWc5 XWc6 XWc7 XWc8 XWc9 XWc10
  have X4c0 := cell_of_row _ _ 0 _ _ (0, 0) X4.out
  have X4c1 := cell_of_row _ _ 1 _ _ (0, 0) X4.out
  have X4c2 := cell_of_row _ _ 2 _ _ (0, 0) X4.out
  have X4c3 := cell_of_row _ _ 3 _ _ (0, 0) X4.out
  have X4c4 := cell_of_row _ _ 4 _ _ (0, 0) X4.out
  have X4c5 := cell_of_row _ _ 5 _ _ (0, 0) X4.out
  have X4c6 := cell_of_row _ _ 6 _ _ (0, 0) X4.out
  have X4c7 := cell_of_row _ _ 7 _ _ (0, 0) X4.out
  have X4c8 := cell_of_row _ _ 8 _ _ (0, 0) X4.out
  have X4c9 := cell_of_row _ _ 9 _ _ (0, 0) X4.out
  have X4c10 := cell_of_row _ _ 10 _ _ (0, 0) X4.out
  simp only [List.getElem?_toArray, List.getElem?_cons_zero, List.getElem?_cons_succ] at X4c0 X4c1 X4c2 X4c3 X4c4 X4c5 X4c6 X4c7 X4c8 X4c9 X4c10
  have XGc0 := cell_of_row _ _ 0 _ _ (0, 0) XG.out
  have XGc1 := cell_of_row _ _ 1 _ _ (0, 0) XG.out
  have XGc2 := cell_of_row _ _ 2 _ _ (0, 0) XG.out
  have XGc3 := cell_of_row _ _ 3 _ _ (0, 0) XG.out
  have XGc4 := cell_of_row _ _ 4 _ _ (0, 0) XG.out
  have XGc5 := cell_of_row _ _ 5 _ _ (0, 0) XG.out
  have XGc6 := cell_of_row _ _ 6 _ _ (0, 0) XG.out
  have XGc7 := cell_of_row _ _ 7 _ _ (0, 0) XG.out
  have XGc8 := cell_of_row _ _ 8 _ _ (0, 0) XG.out
  have XGc9 := cell_of_row _ _ 9 _ _ (0, 0) XG.out
  have XGc10 := cell_of_row _ _ 10 _ _ (0, 0) XG.out
  simp only [List.getElem?_toArray, List.getElem?_cons_zero, List.getElem?_cons_succ] at XGc0 XGc1 XGc2 XGc3 XGc4 XGc5 XGc6 XGc7 XGc8 XGc9 XGc10
  go_wp2_with fail
  refine (toAcct_any w.heap.size (.slice AH0 hs0.length cH0) (.slice AC0 cs0.length cC0) (.slice AS0 ss0.length cS0) (.slice AL0 sl0.length cL0) (id0, lm0, ps0, mo0, su0, hs0, (sp0, hd0, cs0, ss0), sl0) w115 HS0.out HX0.out (by omega)).mono ?_
  rintro e w116 ⟨uh_16, uc_16, us_16, ul_16, rfl, hu16, hb16⟩
  obtain ⟨xh, xc, xs, xl, hcs, q1, q2, q3, q4⟩ := acct_rd hu16.rd
  simp only [aCells, List.cons.injEq, and_true, true_and] at hcs
  obtain ⟨rfl, rfl, rfl, rfl⟩ := hcs
  simp only [aH, aS] at q1 q2 q3 q4
  obtain ⟨AH_16, cH_16, rfl, -⟩ := Rep.slice_form q1
  obtain ⟨AC_16, cC_16, rfl, -⟩ := q2.form
  obtain ⟨AS_16, cS_16, rfl, -⟩ := q3.form
  obtain ⟨AL_16, cL_16, rfl, -⟩ := Rep.slice_form q4
  clear q1 q2 q3 q4
  simp only [aId, aLim, aPos, aMost, aSum]
  have zz116 : w115.heap.size ≤ w116.heap.size := hb16.size
  have hB16 := hB15.trans (hb16.mono (show w.heap.size + 1 ≤ _ by omega))
  replace HX0 := Lib.hid (Rep.below (R := AcctR) HX0.out hb16 (by omega))
  replace HW := Lib.hid (HW.out.below hb16 (by omega))
  replace XW := Lib.hid ((hb16.block _ (by omega)).trans XW.out)
  replace X4 := Lib.hid ((hb16.block _ (by omega)).trans X4.out)
  replace XG := Lib.hid ((hb16.block _ (by omega)).trans XG.out)
  replace HM := Lib.hid (HM.out.below hb16 (by omega))
  clear x_0 x_1 x_2 x_3 x_4 x_5 x_6 x_7 x_8 x_9 x_10
  obtain ⟨x_0, x_1, x_2, x_3, x_4, x_5, x_6, x_7, x_8, x_9, x_10⟩ := HX.out w116 hB16
  have H5 := Lib.hid hu16
  clear XWc0 XWc1 XWc2 XWc3 XWc4 XWc5 XWc6 XWc7 XWc8 XWc9 XWc10
  clear X4c0 X4c1 X4c2 X4c3 X4c4 X4c5 X4c6 X4c7 X4c8 X4c9 X4c10
  clear XGc0 XGc1 XGc2 XGc3 XGc4 XGc5 XGc6 XGc7 XGc8 XGc9 XGc10
  have XWc0 := cell_of_row _ _ 0 _ _ (0, 0) XW.out
  have XWc1 := cell_of_row _ _ 1 _ _ (0, 0) XW.out
  have XWc2 := cell_of_row _ _ 2 _ _ (0, 0) XW.out
  have XWc3 := cell_of_row _ _ 3 _ _ (0, 0) XW.out
  have XWc4 := cell_of_row _ _ 4 _ _ (0, 0) XW.out
  have XWc5 := cell_of_row _ _ 5 _ _ (0, 0) XW.out
  have XWc6 := cell_of_row _ _ 6 _ _ (0, 0) XW.out
  have XWc7 := cell_of_row _ _ 7 _ _ (0, 0) XW.out
  have XWc8 := cell_of_row _ _ 8 _ _ (0, 0) XW.out
  have XWc9 := cell_of_row _ _ 9 _ _ (0, 0) XW.out
  have XWc10 := cell_of_row _ _ 10 _ _ (0, 0) XW.out
  simp only [List.getElem?_toArray, List.getElem?_cons_zero, List.getElem?_cons_succ] at XWc0 XWc1 XWc2 XWc3 XWc4 XWc5 XWc6 XWc7 XWc8 XWc9 XWc10
  have X4c0 := cell_of_row _ _ 0 _ _ (0, 0) X4.out
  have X4c1 := cell_of_row _ _ 1 _ _ (0, 0) X4.out
  have X4c2 := cell_of_row _ _ 2 _ _ (0, 0) X4.out
  have X4c3 := cell_of_row _ _ 3 _ _ (0, 0) X4.out
  have X4c4 := cell_of_row _ _ 4 _ _ (0, 0) X4.out
  have X4c5 := cell_of_row _ _ 5 _ _ (0, 0) X4.out
  have X4c6 := cell_of_row _ _ 6 _ _ (0, 0) X4.out
  have X4c7 := cell_of_row _ _ 7 _ _ (0, 0) X4.out
  have X4c8 := cell_of_row _ _ 8 _ _ (0, 0) X4.out
  have X4c9 := cell_of_row _ _ 9 _ _ (0, 0) X4.out
  have X4c10 := cell_of_row _ _ 10 _ _ (0, 0) X4.out
  simp only [List.getElem?_toArray, List.getElem?_cons_zero, List.getElem?_cons_succ] at X4c0 X4c1 X4c2 X4c3 X4c4 X4c5 X4c6 X4c7 X4c8 X4c9 X4c10
  have XGc0 := cell_of_row _ _ 0 _ _ (0, 0) XG.out
  have XGc1 := cell_of_row _ _ 1 _ _ (0, 0) XG.out
  have XGc2 := cell_of_row _ _ 2 _ _ (0, 0) XG.out
  have XGc3 := cell_of_row _ _ 3 _ _ (0, 0) XG.out
  have XGc4 := cell_of_row _ _ 4 _ _ (0, 0) XG.out
  have XGc5 := cell_of_row _ _ 5 _ _ (0, 0) XG.out
  have XGc6 := cell_of_row _ _ 6 _ _ (0, 0) XG.out
  have XGc7 := cell_of_row _ _ 7 _ _ (0, 0) XG.out
  have XGc8 := cell_of_row _ _ 8 _ _ (0, 0) XG.out
  have XGc9 := cell_of_row _ _ 9 _ _ (0, 0) XG.out
  have XGc10 := cell_of_row _ _ 10 _ _ (0, 0) XG.out
  simp only [List.getElem?_toArray, List.getElem?_cons_zero, List.getElem?_cons_succ] at XGc0 XGc1 XGc2 XGc3 XGc4 XGc5 XGc6 XGc7 XGc8 XGc9 XGc10
  go_wp2_with fail
  refine (HIM.out _ (.slice AH_16 hs0.length cH_16) (.slice AC_16 cs0.length cC_16) (.slice AS_16 ss0.length cS_16) (.slice AL_16 sl0.length cL_16) w116 (HHD.out.below (HB0.out.trans (hB16.mono (by first | omega | (simp <;> omega)))) (Nat.le_refl _)) H5.out.rd (by omega)).mono ?_
  rintro e w117 ⟨uh_17, uc_17, us_17, ul_17, rfl, hu17, hb17⟩
  obtain ⟨xh, xc, xs, xl, hcs, q1, q2, q3, q4⟩ := acct_rd hu17.mine.rd
  simp only [aCells, List.cons.injEq, and_true, true_and] at hcs
  obtain ⟨rfl, rfl, rfl, rfl⟩ := hcs
  simp only [aH, aS] at q1 q2 q3 q4
  obtain ⟨AH_17, cH_17, rfl, -⟩ := Rep.slice_form q1
  obtain ⟨AC_17, cC_17, rfl, -⟩ := q2.form
  obtain ⟨AS_17, cS_17, rfl, -⟩ := q3.form
  obtain ⟨AL_17, cL_17, rfl, -⟩ := Rep.slice_form q4
  clear q1 q2 q3 q4
  simp only [aId, aLim, aPos, aMost, aSum]
  have zz117 : w116.heap.size ≤ w117.heap.size := hb17.size
  have hB17 := hB16.trans (hb17.mono (show w.heap.size + 1 ≤ _ by omega))
  replace HX0 := Lib.hid (Rep.below (R := AcctR) HX0.out hb17 (by omega))
  replace HW := Lib.hid (HW.out.below hb17 (by omega))
  replace XW := Lib.hid ((hb17.block _ (by omega)).trans XW.out)
  replace X4 := Lib.hid ((hb17.block _ (by omega)).trans X4.out)
  replace XG := Lib.hid ((hb17.block _ (by omega)).trans XG.out)
  replace HM := Lib.hid (HM.out.below hb17 (by omega))
  replace H5 := Lib.hid (H5.out.below hb17 (by omega))
  clear x_0 x_1 x_2 x_3 x_4 x_5 x_6 x_7 x_8 x_9 x_10
  obtain ⟨x_0, x_1, x_2, x_3, x_4, x_5, x_6, x_7, x_8, x_9, x_10⟩ := HX.out w117 hB17
  have HH := Lib.hid hu17
  clear XWc0 XWc1 XWc2 XWc3 XWc4 XWc5 XWc6 XWc7 XWc8 XWc9 XWc10
  clear X4c0 X4c1 X4c2 X4c3 X4c4 X4c5 X4c6 X4c7 X4c8 X4c9 X4c10
  clear XGc0 XGc1 XGc2 XGc3 XGc4 XGc5 XGc6 XGc7 XGc8 XGc9 XGc10
  have XWc0 := cell_of_row _ _ 0 _ _ (0, 0) XW.out
  have XWc1 := cell_of_row _ _ 1 _ _ (0, 0) XW.out
  have XWc2 := cell_of_row _ _ 2 _ _ (0, 0) XW.out
  have XWc3 := cell_of_row _ _ 3 _ _ (0, 0) XW.out
  have XWc4 := cell_of_row _ _ 4 _ _ (0, 0) XW.out
  have XWc5 := cell_of_row _ _ 5 _ _ (0, 0) XW.out
  have XWc6 := cell_of_row _ _ 6 _ _ (0, 0) XW.out
  have XWc7 := cell_of_row _ _ 7 _ _ (0, 0) XW.out
  have XWc8 := cell_of_row _ _ 8 _ _ (0, 0) XW.out
  have XWc9 := cell_of_row _ _ 9 _ _ (0, 0) XW.out
  have XWc10 := cell_of_row _ _ 10 _ _ (0, 0) XW.out
  simp only [List.getElem?_toArray, List.getElem?_cons_zero, List.getElem?_cons_succ] at XWc0 XWc1 XWc2 XWc3 XWc4 XWc5 XWc6 XWc7 XWc8 XWc9 XWc10
  have X4c0 := cell_of_row _ _ 0 _ _ (0, 0) X4.out
  have X4c1 := cell_of_row _ _ 1 _ _ (0, 0) X4.out
  have X4c2 := cell_of_row _ _ 2 _ _ (0, 0) X4.out
  have X4c3 := cell_of_row _ _ 3 _ _ (0, 0) X4.out
  have X4c4 := cell_of_row _ _ 4 _ _ (0, 0) X4.out
  have X4c5 := cell_of_row _ _ 5 _ _ (0, 0) X4.out
  have X4c6 := cell_of_row _ _ 6 _ _ (0, 0) X4.out
  have X4c7 := cell_of_row _ _ 7 _ _ (0, 0) X4.out
  have X4c8 := cell_of_row _ _ 8 _ _ (0, 0) X4.out
  have X4c9 := cell_of_row _ _ 9 _ _ (0, 0) X4.out
  have X4c10 := cell_of_row _ _ 10 _ _ (0, 0) X4.out
  simp only [List.getElem?_toArray, List.getElem?_cons_zero, List.getElem?_cons_succ] at X4c0 X4c1 X4c2 X4c3 X4c4 X4c5 X4c6 X4c7 X4c8 X4c9 X4c10
  have XGc0 := cell_of_row _ _ 0 _ _ (0, 0) XG.out
  have XGc1 := cell_of_row _ _ 1 _ _ (0, 0) XG.out
  have XGc2 := cell_of_row _ _ 2 _ _ (0, 0) XG.out
  have XGc3 := cell_of_row _ _ 3 _ _ (0, 0) XG.out
  have XGc4 := cell_of_row _ _ 4 _ _ (0, 0) XG.out
  have XGc5 := cell_of_row _ _ 5 _ _ (0, 0) XG.out
  have XGc6 := cell_of_row _ _ 6 _ _ (0, 0) XG.out
  have XGc7 := cell_of_row _ _ 7 _ _ (0, 0) XG.out
  have XGc8 := cell_of_row _ _ 8 _ _ (0, 0) XG.out
  have XGc9 := cell_of_row _ _ 9 _ _ (0, 0) XG.out
  have XGc10 := cell_of_row _ _ 10 _ _ (0, 0) XG.out
  simp only [List.getElem?_toArray, List.getElem?_cons_zero, List.getElem?_cons_succ] at XGc0 XGc1 XGc2 XGc3 XGc4 XGc5 XGc6 XGc7 XGc8 XGc9 XGc10
  have yy17_0 : w.heap.size < w117.heap.size := by omega
  have yy17XW : w103.heap.size < w117.heap.size := by omega
  have yy17X4 : w105.heap.size < w117.heap.size := by omega
  have yy17XG : w107.heap.size < w117.heap.size := by omega
  go_wp2_with fail
  have hb18 := (Below.refl w117.heap.size w117).alloc (Nat.le_refl _) (.cells #[.string id9, .int .i64 lm9, .int .i64 ps9, .int .i64 mo9, .int .i64 su9, .slice AH_17 hs9.length cH_17, .int .i64 sp9, .int .i64 hd9, .slice AC_17 cs9.length cC_17, .slice AS_17 ss9.length cS_17, .slice AL_17 sl9.length cL_17] 29)
  have hXH := heap_alloc_new w117 (.cells #[.string id9, .int .i64 lm9, .int .i64 ps9, .int .i64 mo9, .int .i64 su9, .slice AH_17 hs9.length cH_17, .int .i64 sp9, .int .i64 hd9, .slice AC_17 cs9.length cC_17, .slice AS_17 ss9.length cS_17, .slice AL_17 sl9.length cL_17] 29)
  generalize w117.alloc (.cells #[.string id9, .int .i64 lm9, .int .i64 ps9, .int .i64 mo9, .int .i64 su9, .slice AH_17 hs9.length cH_17, .int .i64 sp9, .int .i64 hd9, .slice AC_17 cs9.length cC_17, .slice AS_17 ss9.length cS_17, .slice AL_17 sl9.length cL_17] 29) = w118 at hb18 hXH ⊢
  have zz118 : w117.heap.size ≤ w118.heap.size := hb18.size
  have zl18 : w117.heap.size < w118.heap.size := lt_of_block hXH
  have hB18 := hB17.trans (hb18.mono (show w.heap.size + 1 ≤ _ by omega))
  replace HX0 := Lib.hid (Rep.below (R := AcctR) HX0.out hb18 (by omega))
  replace HW := Lib.hid (HW.out.below hb18 (by omega))
  replace XW := Lib.hid ((hb18.block _ (by omega)).trans XW.out)
  replace X4 := Lib.hid ((hb18.block _ (by omega)).trans X4.out)
  replace XG := Lib.hid ((hb18.block _ (by omega)).trans XG.out)
  replace HM := Lib.hid (HM.out.below hb18 (by omega))
  replace H5 := Lib.hid (H5.out.below hb18 (by omega))
  replace HH := Lib.hid (HH.out.below hb18 (by omega))
  have XH := Lib.hid hXH
  clear hXH
  clear x_0 x_1 x_2 x_3 x_4 x_5 x_6 x_7 x_8 x_9 x_10
  obtain ⟨x_0, x_1, x_2, x_3, x_4, x_5, x_6, x_7, x_8, x_9, x_10⟩ := HX.out w118 hB18
  have XHc0 := cell_of_row _ _ 0 _ _ (0, 0) XH.out
  have XHc1 := cell_of_row _ _ 1 _ _ (0, 0) XH.out
  have XHc2 := cell_of_row _ _ 2 _ _ (0, 0) XH.out
  have XHc3 := cell_of_row _ _ 3 _ _ (0, 0) XH.out
  have XHc4 := cell_of_row _ _ 4 _ _ (0, 0) XH.out
  have XHc5 := cell_of_row _ _ 5 _ _ (0, 0) XH.out
  have XHc6 := cell_of_row _ _ 6 _ _ (0, 0) XH.out
  have XHc7 := cell_of_row _ _ 7 _ _ (0, 0) XH.out
  have XHc8 := cell_of_row _ _ 8 _ _ (0, 0) XH.out
  have XHc9 := cell_of_row _ _ 9 _ _ (0, 0) XH.out
  have XHc10 := cell_of_row _ _ 10 _ _ (0, 0) XH.out
  simp only [List.getElem?_toArray, List.getElem?_cons_zero, List.getElem?_cons_succ] at XHc0 XHc1 XHc2 XHc3 XHc4 XHc5 XHc6 XHc7 XHc8 XHc9 XHc10
  go_wp2_with fail
  refine (eqAcct_any _ _ (.slice AH_17 hs9.length cH_17) (.slice AC_17 cs9.length cC_17) (.slice AS_17 ss9.length cS_17) (.slice AL_17 sl9.length cL_17) (.slice AH_3 hs9.length cH_3) (.slice AC_3 cs9.length cC_3) (.slice AS_3 ss9.length cS_3) (.slice AL_3 sl9.length cL_3) (id9, lm9, ps9, mo9, su9, hs9, (sp9, hd9, cs9, ss9), sl9) w118 HS9.out HH.out.mine.rd HW.out.rd (by omega) (by omega)).mono ?_
  rintro e w119 ⟨rfl, hb19⟩
  have zz119 : w118.heap.size ≤ w119.heap.size := hb19.size
  have hB19 := hB18.trans (hb19.mono (show w.heap.size + 1 ≤ _ by omega))
  replace HX0 := Lib.hid (Rep.below (R := AcctR) HX0.out hb19 (by omega))
  replace HW := Lib.hid (HW.out.below hb19 (by omega))
  replace XW := Lib.hid ((hb19.block _ (by omega)).trans XW.out)
  replace X4 := Lib.hid ((hb19.block _ (by omega)).trans X4.out)
  replace XG := Lib.hid ((hb19.block _ (by omega)).trans XG.out)
  replace HM := Lib.hid (HM.out.below hb19 (by omega))
  replace H5 := Lib.hid (H5.out.below hb19 (by omega))
  replace HH := Lib.hid (HH.out.below hb19 (by omega))
  replace XH := Lib.hid ((hb19.block _ (by omega)).trans XH.out)
  clear x_0 x_1 x_2 x_3 x_4 x_5 x_6 x_7 x_8 x_9 x_10
  obtain ⟨x_0, x_1, x_2, x_3, x_4, x_5, x_6, x_7, x_8, x_9, x_10⟩ := HX.out w119 hB19
  clear XWc0 XWc1 XWc2 XWc3 XWc4 XWc5 XWc6 XWc7 XWc8 XWc9 XWc10
  clear X4c0 X4c1 X4c2 X4c3 X4c4 X4c5 X4c6 X4c7 X4c8 X4c9 X4c10
  clear XGc0 XGc1 XGc2 XGc3 XGc4 XGc5 XGc6 XGc7 XGc8 XGc9 XGc10
  clear XHc0 XHc1 XHc2 XHc3 XHc4 XHc5 XHc6 XHc7 XHc8 XHc9 XHc10
  have XWc0 := cell_of_row _ _ 0 _ _ (0, 0) XW.out
  have XWc1 := cell_of_row _ _ 1 _ _ (0, 0) XW.out
  have XWc2 := cell_of_row _ _ 2 _ _ (0, 0) XW.out
  have XWc3 := cell_of_row _ _ 3 _ _ (0, 0) XW.out
  have XWc4 := cell_of_row _ _ 4 _ _ (0, 0) XW.out
  have XWc5 := cell_of_row _ _ 5 _ _ (0, 0) XW.out
  have XWc6 := cell_of_row _ _ 6 _ _ (0, 0) XW.out
  have XWc7 := cell_of_row _ _ 7 _ _ (0, 0) XW.out
  have XWc8 := cell_of_row _ _ 8 _ _ (0, 0) XW.out
  have XWc9 := cell_of_row _ _ 9 _ _ (0, 0) XW.out
  have XWc10 := cell_of_row _ _ 10 _ _ (0, 0) XW.out
  simp only [List.getElem?_toArray, List.getElem?_cons_zero, List.getElem?_cons_succ] at XWc0 XWc1 XWc2 XWc3 XWc4 XWc5 XWc6 XWc7 XWc8 XWc9 XWc10
  have X4c0 := cell_of_row _ _ 0 _ _ (0, 0) X4.out
  have X4c1 := cell_of_row _ _ 1 _ _ (0, 0) X4.out
  have X4c2 := cell_of_row _ _ 2 _ _ (0, 0) X4.out
  have X4c3 := cell_of_row _ _ 3 _ _ (0, 0) X4.out
  have X4c4 := cell_of_row _ _ 4 _ _ (0, 0) X4.out
  have X4c5 := cell_of_row _ _ 5 _ _ (0, 0) X4.out
  have X4c6 := cell_of_row _ _ 6 _ _ (0, 0) X4.out
  have X4c7 := cell_of_row _ _ 7 _ _ (0, 0) X4.out
  have X4c8 := cell_of_row _ _ 8 _ _ (0, 0) X4.out
  have X4c9 := cell_of_row _ _ 9 _ _ (0, 0) X4.out
  have X4c10 := cell_of_row _ _ 10 _ _ (0, 0) X4.out
  simp only [List.getElem?_toArray, List.getElem?_cons_zero, List.getElem?_cons_succ] at X4c0 X4c1 X4c2 X4c3 X4c4 X4c5 X4c6 X4c7 X4c8 X4c9 X4c10
  have XGc0 := cell_of_row _ _ 0 _ _ (0, 0) XG.out
  have XGc1 := cell_of_row _ _ 1 _ _ (0, 0) XG.out
  have XGc2 := cell_of_row _ _ 2 _ _ (0, 0) XG.out
  have XGc3 := cell_of_row _ _ 3 _ _ (0, 0) XG.out
  have XGc4 := cell_of_row _ _ 4 _ _ (0, 0) XG.out
  have XGc5 := cell_of_row _ _ 5 _ _ (0, 0) XG.out
  have XGc6 := cell_of_row _ _ 6 _ _ (0, 0) XG.out
  have XGc7 := cell_of_row _ _ 7 _ _ (0, 0) XG.out
  have XGc8 := cell_of_row _ _ 8 _ _ (0, 0) XG.out
  have XGc9 := cell_of_row _ _ 9 _ _ (0, 0) XG.out
  have XGc10 := cell_of_row _ _ 10 _ _ (0, 0) XG.out
  simp only [List.getElem?_toArray, List.getElem?_cons_zero, List.getElem?_cons_succ] at XGc0 XGc1 XGc2 XGc3 XGc4 XGc5 XGc6 XGc7 XGc8 XGc9 XGc10
  have XHc0 := cell_of_row _ _ 0 _ _ (0, 0) XH.out
  have XHc1 := cell_of_row _ _ 1 _ _ (0, 0) XH.out
  have XHc2 := cell_of_row _ _ 2 _ _ (0, 0) XH.out
  have XHc3 := cell_of_row _ _ 3 _ _ (0, 0) XH.out
  have XHc4 := cell_of_row _ _ 4 _ _ (0, 0) XH.out
  have XHc5 := cell_of_row _ _ 5 _ _ (0, 0) XH.out
  have XHc6 := cell_of_row _ _ 6 _ _ (0, 0) XH.out
  have XHc7 := cell_of_row _ _ 7 _ _ (0, 0) XH.out
  have XHc8 := cell_of_row _ _ 8 _ _ (0, 0) XH.out
  have XHc9 := cell_of_row _ _ 9 _ _ (0, 0) XH.out
  have XHc10 := cell_of_row _ _ 10 _ _ (0, 0) XH.out
  simp only [List.getElem?_toArray, List.getElem?_cons_zero, List.getElem?_cons_succ] at XHc0 XHc1 XHc2 XHc3 XHc4 XHc5 XHc6 XHc7 XHc8 XHc9 XHc10
  go_wp2_with fail
  refine (HHE.out w119 _ HM.out.mine.rd (by omega)).mono ?_
  rintro e w120 ⟨rfl, hb20⟩
  have zz120 : w119.heap.size ≤ w120.heap.size := hb20.size
  have hB20 := hB19.trans (hb20.mono (show w.heap.size + 1 ≤ _ by omega))
  replace HX0 := Lib.hid (Rep.below (R := AcctR) HX0.out hb20 (by omega))
  replace HW := Lib.hid (HW.out.below hb20 (by omega))
  replace XW := Lib.hid ((hb20.block _ (by omega)).trans XW.out)
  replace X4 := Lib.hid ((hb20.block _ (by omega)).trans X4.out)
  replace XG := Lib.hid ((hb20.block _ (by omega)).trans XG.out)
  replace HM := Lib.hid (HM.out.below hb20 (by omega))
  replace H5 := Lib.hid (H5.out.below hb20 (by omega))
  replace HH := Lib.hid (HH.out.below hb20 (by omega))
  replace XH := Lib.hid ((hb20.block _ (by omega)).trans XH.out)
  clear x_0 x_1 x_2 x_3 x_4 x_5 x_6 x_7 x_8 x_9 x_10
  obtain ⟨x_0, x_1, x_2, x_3, x_4, x_5, x_6, x_7, x_8, x_9, x_10⟩ := HX.out w120 hB20
  clear XWc0 XWc1 XWc2 XWc3 XWc4 XWc5 XWc6 XWc7 XWc8 XWc9 XWc10
  clear X4c0 X4c1 X4c2 X4c3 X4c4 X4c5 X4c6 X4c7 X4c8 X4c9 X4c10
  clear XGc0 XGc1 XGc2 XGc3 XGc4 XGc5 XGc6 XGc7 XGc8 XGc9 XGc10
  clear XHc0 XHc1 XHc2 XHc3 XHc4 XHc5 XHc6 XHc7 XHc8 XHc9 XHc10
  have XWc0 := cell_of_row _ _ 0 _ _ (0, 0) XW.out
  have XWc1 := cell_of_row _ _ 1 _ _ (0, 0) XW.out
  have XWc2 := cell_of_row _ _ 2 _ _ (0, 0) XW.out
  have XWc3 := cell_of_row _ _ 3 _ _ (0, 0) XW.out
  have XWc4 := cell_of_row _ _ 4 _ _ (0, 0) XW.out
  have XWc5 := cell_of_row _ _ 5 _ _ (0, 0) XW.out
  have XWc6 := cell_of_row _ _ 6 _ _ (0, 0) XW.out
  have XWc7 := cell_of_row _ _ 7 _ _ (0, 0) XW.out
  have XWc8 := cell_of_row _ _ 8 _ _ (0, 0) XW.out
  have XWc9 := cell_of_row _ _ 9 _ _ (0, 0) XW.out
  have XWc10 := cell_of_row _ _ 10 _ _ (0, 0) XW.out
  simp only [List.getElem?_toArray, List.getElem?_cons_zero, List.getElem?_cons_succ] at XWc0 XWc1 XWc2 XWc3 XWc4 XWc5 XWc6 XWc7 XWc8 XWc9 XWc10
  have X4c0 := cell_of_row _ _ 0 _ _ (0, 0) X4.out
  have X4c1 := cell_of_row _ _ 1 _ _ (0, 0) X4.out
  have X4c2 := cell_of_row _ _ 2 _ _ (0, 0) X4.out
  have X4c3 := cell_of_row _ _ 3 _ _ (0, 0) X4.out
  have X4c4 := cell_of_row _ _ 4 _ _ (0, 0) X4.out
  have X4c5 := cell_of_row _ _ 5 _ _ (0, 0) X4.out
  have X4c6 := cell_of_row _ _ 6 _ _ (0, 0) X4.out
  have X4c7 := cell_of_row _ _ 7 _ _ (0, 0) X4.out
  have X4c8 := cell_of_row _ _ 8 _ _ (0, 0) X4.out
  have X4c9 := cell_of_row _ _ 9 _ _ (0, 0) X4.out
  have X4c10 := cell_of_row _ _ 10 _ _ (0, 0) X4.out
  simp only [List.getElem?_toArray, List.getElem?_cons_zero, List.getElem?_cons_succ] at X4c0 X4c1 X4c2 X4c3 X4c4 X4c5 X4c6 X4c7 X4c8 X4c9 X4c10
  have XGc0 := cell_of_row _ _ 0 _ _ (0, 0) XG.out
  have XGc1 := cell_of_row _ _ 1 _ _ (0, 0) XG.out
  have XGc2 := cell_of_row _ _ 2 _ _ (0, 0) XG.out
  have XGc3 := cell_of_row _ _ 3 _ _ (0, 0) XG.out
  have XGc4 := cell_of_row _ _ 4 _ _ (0, 0) XG.out
  have XGc5 := cell_of_row _ _ 5 _ _ (0, 0) XG.out
  have XGc6 := cell_of_row _ _ 6 _ _ (0, 0) XG.out
  have XGc7 := cell_of_row _ _ 7 _ _ (0, 0) XG.out
  have XGc8 := cell_of_row _ _ 8 _ _ (0, 0) XG.out
  have XGc9 := cell_of_row _ _ 9 _ _ (0, 0) XG.out
  have XGc10 := cell_of_row _ _ 10 _ _ (0, 0) XG.out
  simp only [List.getElem?_toArray, List.getElem?_cons_zero, List.getElem?_cons_succ] at XGc0 XGc1 XGc2 XGc3 XGc4 XGc5 XGc6 XGc7 XGc8 XGc9 XGc10
  have XHc0 := cell_of_row _ _ 0 _ _ (0, 0) XH.out
  have XHc1 := cell_of_row _ _ 1 _ _ (0, 0) XH.out
  have XHc2 := cell_of_row _ _ 2 _ _ (0, 0) XH.out
  have XHc3 := cell_of_row _ _ 3 _ _ (0, 0) XH.out
  have XHc4 := cell_of_row _ _ 4 _ _ (0, 0) XH.out
  have XHc5 := cell_of_row _ _ 5 _ _ (0, 0) XH.out
  have XHc6 := cell_of_row _ _ 6 _ _ (0, 0) XH.out
  have XHc7 := cell_of_row _ _ 7 _ _ (0, 0) XH.out
  have XHc8 := cell_of_row _ _ 8 _ _ (0, 0) XH.out
  have XHc9 := cell_of_row _ _ 9 _ _ (0, 0) XH.out
  have XHc10 := cell_of_row _ _ 10 _ _ (0, 0) XH.out
  simp only [List.getElem?_toArray, List.getElem?_cons_zero, List.getElem?_cons_succ] at XHc0 XHc1 XHc2 XHc3 XHc4 XHc5 XHc6 XHc7 XHc8 XHc9 XHc10
  go_wp2
  go_ret
  exact ⟨rfl, (HB0.out.trans (hB20.mono (by first | omega | (simp <;> omega))))⟩
end Go.Proofs.YtnmijppppcgobaaGreatDoor.fnExactAuthorize
