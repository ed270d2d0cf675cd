/- FnExactAcctNew: for every argument the law answers true: the program's function returns what the reference returns; the listed package variables hold what the program's text lays (tied). -/
import Derived.Test.YtpeeagkfhdeagaaDoorMrg2
import Derived.Test.YtpeeagkfhdeagaaDoorCards
import Derived.Test.YtpeeagkfhdeagaaDoorTie
import Derived.Stop.LaidErr
import Derived.LaidMore
import Derived.Stop.Joined
import Derived.SevenTiedAt
import Derived.WalkSmall
import Derived.LaidHandle
import Derived.Deep.RegionHeld3
namespace Go.Proofs.YtpeeagkfhdeagaaDoor.fnExactAcctNew
open Go.ChangeShapes Go.WideShapes Go.ChangeAt Go.RowKit
open Go.WideMaps Go.WideElems
open Go.ChangeMaps (open_string shut_string)
set_option linter.unusedVariables false

set_option maxRecDepth 100000 in
theorem own : ownKnob Tryd.prog.godebug = none := by kernel_rfl

set_option maxRecDepth 100000 in
set_option maxHeartbeats 8000000 in
theorem walk (w : World) (p0 : Addr) (hc0 : w.cell? ⟨0, 0, none⟩ = some (.iface 138 (.pointer (some p0)))) (hh : w.cell? ⟨1, 0, none⟩ = some (.iface 125 (.agg #[.pointer (some ⟨2, 103, none⟩)]))) (a0 : ByteArray) (a1 : Int) (a2 : Int) (a3 : Int) (a4 : Int) (a5 : Int) (w0 : a0.size ≤ maxLen) (w1 : (Lit.int .i64 a1).wf = true) (w2 : (Lit.int .i64 a2).wf = true) (w3 : (Lit.int .i64 a3).wf = true) (w4 : (Lit.int .i64 a4).wf = true) (w5 : (Lit.int .i64 a5).wf = true) :
    Calls Tryd.prog 3 #[.string a0, .int .i64 a1, .int .i64 a2, .int .i64 a3, .int .i64 a4, .int .i64 a5] w fun e w' => e = .returned (.bool true) ∧ Below w.heap.size w w' := by
  have HB0 : Hid (Below w.heap.size w w) := Lib.hid (Below.refl _ _)
  have hB0 : Below w.heap.size w w := Below.refl _ _
  clear w1 w2 w3 w4 w5
  by_cases hbig : (1048576 : Int) < (a0.size : Int)
  · go_enter Tryd.func3, Tryd.ntmps3
    go_wp2
    go_ret
    exact ⟨rfl, hB0⟩
  have hfit := acctNew_fit a0 a1 a2 a3 a4 a5
  have HSP := Lib.hid (fun W => specAcctNew_any a0 a1 a2 a3 a4 a5 W w0)
  have HHD : Hid (Handle w) := Lib.hid hh
  clear hh
  have HIM := Lib.hid (fun W (hg : Handle W) => implAcctNew_any a0 a1 a2 a3 a4 a5 W hg w0)
  clear w0
  generalize acctNew a0 a1 a2 a3 a4 a5 = wr at HSP HIM hfit
  obtain ⟨⟨id9, lm9, ps9, mo9, su9, hs9, ⟨sp9, hd9, cs9, ss9⟩, sl9⟩, wk⟩ := wr
  simp only at hfit HSP HIM
  have HS9 := Lib.hid hfit.1
  have HK9 := Lib.hid hfit.2
  clear hfit
  go_enter Tryd.func3, Tryd.ntmps3
  go_wp2_with fail
  refine (HSP.out w).mono ?_
  rintro e w101 ⟨uh_1, uc_1, us_1, ul_1, rfl, hu1, hb1⟩
  obtain ⟨xh, xc, xs, xl, hcs, q1, q2, q3, q4⟩ := acct_rd hu1.rd
  simp only [aCells, List.cons.injEq, and_true, true_and] at hcs
  obtain ⟨rfl, rfl, rfl, rfl⟩ := hcs
  simp only [aH, aS] at q1 q2 q3 q4
  obtain ⟨AH_1, cH_1, rfl, -⟩ := Rep.slice_form q1
  obtain ⟨AC_1, cC_1, rfl, -⟩ := q2.form
  obtain ⟨AS_1, cS_1, rfl, -⟩ := q3.form
  obtain ⟨AL_1, cL_1, rfl, -⟩ := Rep.slice_form q4
  clear q1 q2 q3 q4
  simp only [aId, aLim, aPos, aMost, aSum]
  have zz101 : w.heap.size ≤ w101.heap.size := hb1.size
  have hB1 : Below w.heap.size w w101 := hb1
  have hw1 : Below w.heap.size w w101 := hb1
  have HW := Lib.hid hu1
  go_wp2_with fail
  have hb2 := (Below.refl w101.heap.size w101).alloc (Nat.le_refl _) (.cells #[.string id9, .int .i64 lm9, .int .i64 ps9, .int .i64 mo9, .int .i64 su9, .slice AH_1 hs9.length cH_1, .int .i64 sp9, .int .i64 hd9, .slice AC_1 cs9.length cC_1, .slice AS_1 ss9.length cS_1, .slice AL_1 sl9.length cL_1] 28)
  have hXW := heap_alloc_new w101 (.cells #[.string id9, .int .i64 lm9, .int .i64 ps9, .int .i64 mo9, .int .i64 su9, .slice AH_1 hs9.length cH_1, .int .i64 sp9, .int .i64 hd9, .slice AC_1 cs9.length cC_1, .slice AS_1 ss9.length cS_1, .slice AL_1 sl9.length cL_1] 28)
  generalize w101.alloc (.cells #[.string id9, .int .i64 lm9, .int .i64 ps9, .int .i64 mo9, .int .i64 su9, .slice AH_1 hs9.length cH_1, .int .i64 sp9, .int .i64 hd9, .slice AC_1 cs9.length cC_1, .slice AS_1 ss9.length cS_1, .slice AL_1 sl9.length cL_1] 28) = w102 at hb2 hXW ⊢
  have zz102 : w101.heap.size ≤ w102.heap.size := hb2.size
  have zl2 : w101.heap.size < w102.heap.size := lt_of_block hXW
  have hB2 := hB1.trans (hb2.mono (show w.heap.size ≤ _ by omega))
  replace HW := Lib.hid (HW.out.below hb2 (by omega))
  have XW := Lib.hid hXW
  clear hXW
  have XWc0 := cell_of_row _ _ 0 _ _ (0, 0) XW.out
  have XWc1 := cell_of_row _ _ 1 _ _ (0, 0) XW.out
  have XWc2 := cell_of_row _ _ 2 _ _ (0, 0) XW.out
  have XWc3 := cell_of_row _ _ 3 _ _ (0, 0) XW.out
  have XWc4 := cell_of_row _ _ 4 _ _ (0, 0) XW.out
  have XWc5 := cell_of_row _ _ 5 _ _ (0, 0) XW.out
  have XWc6 := cell_of_row _ _ 6 _ _ (0, 0) XW.out
  have XWc7 := cell_of_row _ _ 7 _ _ (0, 0) XW.out
  have XWc8 := cell_of_row _ _ 8 _ _ (0, 0) XW.out
  have XWc9 := cell_of_row _ _ 9 _ _ (0, 0) XW.out
  have XWc10 := cell_of_row _ _ 10 _ _ (0, 0) XW.out
  simp only [List.getElem?_toArray, List.getElem?_cons_zero, List.getElem?_cons_succ] at XWc0 XWc1 XWc2 XWc3 XWc4 XWc5 XWc6 XWc7 XWc8 XWc9 XWc10
  go_wp2_with fail
  refine (HIM.out w102 (HHD.out.below hB2 (Nat.le_refl _))).mono ?_
  rintro e w103 ⟨uh_3, uc_3, us_3, ul_3, rfl, hu3, hb3⟩
  obtain ⟨xh, xc, xs, xl, hcs, q1, q2, q3, q4⟩ := acct_rd hu3.mine.rd
  simp only [aCells, List.cons.injEq, and_true, true_and] at hcs
  obtain ⟨rfl, rfl, rfl, rfl⟩ := hcs
  simp only [aH, aS] at q1 q2 q3 q4
  obtain ⟨AH_3, cH_3, rfl, -⟩ := Rep.slice_form q1
  obtain ⟨AC_3, cC_3, rfl, -⟩ := q2.form
  obtain ⟨AS_3, cS_3, rfl, -⟩ := q3.form
  obtain ⟨AL_3, cL_3, rfl, -⟩ := Rep.slice_form q4
  clear q1 q2 q3 q4
  simp only [aId, aLim, aPos, aMost, aSum]
  have zz103 : w102.heap.size ≤ w103.heap.size := hb3.size
  have hB3 := hB2.trans (hb3.mono (show w.heap.size ≤ _ by omega))
  replace HW := Lib.hid (HW.out.below hb3 (by omega))
  replace XW := Lib.hid ((hb3.block _ (by omega)).trans XW.out)
  have HG := Lib.hid hu3
  clear XWc0 XWc1 XWc2 XWc3 XWc4 XWc5 XWc6 XWc7 XWc8 XWc9 XWc10
  have XWc0 := cell_of_row _ _ 0 _ _ (0, 0) XW.out
  have XWc1 := cell_of_row _ _ 1 _ _ (0, 0) XW.out
  have XWc2 := cell_of_row _ _ 2 _ _ (0, 0) XW.out
  have XWc3 := cell_of_row _ _ 3 _ _ (0, 0) XW.out
  have XWc4 := cell_of_row _ _ 4 _ _ (0, 0) XW.out
  have XWc5 := cell_of_row _ _ 5 _ _ (0, 0) XW.out
  have XWc6 := cell_of_row _ _ 6 _ _ (0, 0) XW.out
  have XWc7 := cell_of_row _ _ 7 _ _ (0, 0) XW.out
  have XWc8 := cell_of_row _ _ 8 _ _ (0, 0) XW.out
  have XWc9 := cell_of_row _ _ 9 _ _ (0, 0) XW.out
  have XWc10 := cell_of_row _ _ 10 _ _ (0, 0) XW.out
  simp only [List.getElem?_toArray, List.getElem?_cons_zero, List.getElem?_cons_succ] at XWc0 XWc1 XWc2 XWc3 XWc4 XWc5 XWc6 XWc7 XWc8 XWc9 XWc10
  have yy3XW : w101.heap.size < w103.heap.size := by omega
  go_wp2_with fail
  have hb4 := (Below.refl w103.heap.size w103).alloc (Nat.le_refl _) (.cells #[.string id9, .int .i64 lm9, .int .i64 ps9, .int .i64 mo9, .int .i64 su9, .slice AH_3 hs9.length cH_3, .int .i64 sp9, .int .i64 hd9, .slice AC_3 cs9.length cC_3, .slice AS_3 ss9.length cS_3, .slice AL_3 sl9.length cL_3] 28)
  have hXG := heap_alloc_new w103 (.cells #[.string id9, .int .i64 lm9, .int .i64 ps9, .int .i64 mo9, .int .i64 su9, .slice AH_3 hs9.length cH_3, .int .i64 sp9, .int .i64 hd9, .slice AC_3 cs9.length cC_3, .slice AS_3 ss9.length cS_3, .slice AL_3 sl9.length cL_3] 28)
  generalize w103.alloc (.cells #[.string id9, .int .i64 lm9, .int .i64 ps9, .int .i64 mo9, .int .i64 su9, .slice AH_3 hs9.length cH_3, .int .i64 sp9, .int .i64 hd9, .slice AC_3 cs9.length cC_3, .slice AS_3 ss9.length cS_3, .slice AL_3 sl9.length cL_3] 28) = w104 at hb4 hXG ⊢
  have zz104 : w103.heap.size ≤ w104.heap.size := hb4.size
  have zl4 : w103.heap.size < w104.heap.size := lt_of_block hXG
  have hB4 := hB3.trans (hb4.mono (show w.heap.size ≤ _ by omega))
  replace HW := Lib.hid (HW.out.below hb4 (by omega))
  replace XW := Lib.hid ((hb4.block _ (by omega)).trans XW.out)
  replace HG := Lib.hid (HG.out.below hb4 (by omega))
  have XG := Lib.hid hXG
  clear hXG
  have XGc0 := cell_of_row _ _ 0 _ _ (0, 0) XG.out
  have XGc1 := cell_of_row _ _ 1 _ _ (0, 0) XG.out
  have XGc2 := cell_of_row _ _ 2 _ _ (0, 0) XG.out
  have XGc3 := cell_of_row _ _ 3 _ _ (0, 0) XG.out
  have XGc4 := cell_of_row _ _ 4 _ _ (0, 0) XG.out
  have XGc5 := cell_of_row _ _ 5 _ _ (0, 0) XG.out
  have XGc6 := cell_of_row _ _ 6 _ _ (0, 0) XG.out
  have XGc7 := cell_of_row _ _ 7 _ _ (0, 0) XG.out
  have XGc8 := cell_of_row _ _ 8 _ _ (0, 0) XG.out
  have XGc9 := cell_of_row _ _ 9 _ _ (0, 0) XG.out
  have XGc10 := cell_of_row _ _ 10 _ _ (0, 0) XG.out
  simp only [List.getElem?_toArray, List.getElem?_cons_zero, List.getElem?_cons_succ] at XGc0 XGc1 XGc2 XGc3 XGc4 XGc5 XGc6 XGc7 XGc8 XGc9 XGc10
  go_wp2_with fail
  refine (eqAcct_any _ _ (.slice AH_3 hs9.length cH_3) (.slice AC_3 cs9.length cC_3) (.slice AS_3 ss9.length cS_3) (.slice AL_3 sl9.length cL_3) (.slice AH_1 hs9.length cH_1) (.slice AC_1 cs9.length cC_1) (.slice AS_1 ss9.length cS_1) (.slice AL_1 sl9.length cL_1) (id9, lm9, ps9, mo9, su9, hs9, (sp9, hd9, cs9, ss9), sl9) w104 HS9.out HG.out.mine.rd HW.out.rd (by omega) (by omega)).mono ?_
  rintro e w105 ⟨rfl, hb5⟩
  have zz105 : w104.heap.size ≤ w105.heap.size := hb5.size
  have hB5 := hB4.trans (hb5.mono (show w.heap.size ≤ _ by omega))
  replace HW := Lib.hid (HW.out.below hb5 (by omega))
  replace XW := Lib.hid ((hb5.block _ (by omega)).trans XW.out)
  replace HG := Lib.hid (HG.out.below hb5 (by omega))
  replace XG := Lib.hid ((hb5.block _ (by omega)).trans XG.out)
  clear XWc0 XWc1 XWc2 XWc3 XWc4 XWc5 XWc6 XWc7 XWc8 XWc9 XWc10
  clear XGc0 XGc1 XGc2 XGc3 XGc4 XGc5 XGc6 XGc7 XGc8 XGc9 XGc10
  have XWc0 := cell_of_row _ _ 0 _ _ (0, 0) XW.out
  have XWc1 := cell_of_row _ _ 1 _ _ (0, 0) XW.out
  have XWc2 := cell_of_row _ _ 2 _ _ (0, 0) XW.out
  have XWc3 := cell_of_row _ _ 3 _ _ (0, 0) XW.out
  have XWc4 := cell_of_row _ _ 4 _ _ (0, 0) XW.out
  have XWc5 := cell_of_row _ _ 5 _ _ (0, 0) XW.out
  have XWc6 := cell_of_row _ _ 6 _ _ (0, 0) XW.out
  have XWc7 := cell_of_row _ _ 7 _ _ (0, 0) XW.out
  have XWc8 := cell_of_row _ _ 8 _ _ (0, 0) XW.out
  have XWc9 := cell_of_row _ _ 9 _ _ (0, 0) XW.out
  have XWc10 := cell_of_row _ _ 10 _ _ (0, 0) XW.out
  simp only [List.getElem?_toArray, List.getElem?_cons_zero, List.getElem?_cons_succ] at XWc0 XWc1 XWc2 XWc3 XWc4 XWc5 XWc6 XWc7 XWc8 XWc9 XWc10
  have XGc0 := cell_of_row _ _ 0 _ _ (0, 0) XG.out
  have XGc1 := cell_of_row _ _ 1 _ _ (0, 0) XG.out
  have XGc2 := cell_of_row _ _ 2 _ _ (0, 0) XG.out
  have XGc3 := cell_of_row _ _ 3 _ _ (0, 0) XG.out
  have XGc4 := cell_of_row _ _ 4 _ _ (0, 0) XG.out
  have XGc5 := cell_of_row _ _ 5 _ _ (0, 0) XG.out
  have XGc6 := cell_of_row _ _ 6 _ _ (0, 0) XG.out
  have XGc7 := cell_of_row _ _ 7 _ _ (0, 0) XG.out
  have XGc8 := cell_of_row _ _ 8 _ _ (0, 0) XG.out
  have XGc9 := cell_of_row _ _ 9 _ _ (0, 0) XG.out
  have XGc10 := cell_of_row _ _ 10 _ _ (0, 0) XG.out
  simp only [List.getElem?_toArray, List.getElem?_cons_zero, List.getElem?_cons_succ] at XGc0 XGc1 XGc2 XGc3 XGc4 XGc5 XGc6 XGc7 XGc8 XGc9 XGc10
  go_wp2_with fail
  refine (markAcct_any _ _ (.slice AH_3 hs9.length cH_3) (.slice AC_3 cs9.length cC_3) (.slice AS_3 ss9.length cS_3) (.slice AL_3 sl9.length cL_3) (id9, lm9, ps9, mo9, su9, hs9, (sp9, hd9, cs9, ss9), sl9) w105 HS9.out HK9.out HG.out (by omega)).mono ?_
  rintro e w106 ⟨rfl, hmk6, ht6⟩
  have zz106 : w105.heap.size ≤ w106.heap.size := ht6.size
  have hB6 := hB5.trans (ht6.below (show w.heap.size ≤ _ by omega) (by omega))
  replace HW := Lib.hid (HW.out.turned ht6 (by omega) (by omega))
  replace XW := Lib.hid ((ht6.block _ (by omega) (by omega)).trans XW.out)
  replace XG := Lib.hid ((ht6.block _ (by omega) (by omega)).trans XG.out)
  clear HG
  have HM := Lib.hid hmk6
  clear XWc0 XWc1 XWc2 XWc3 XWc4 XWc5 XWc6 XWc7 XWc8 XWc9 XWc10
  clear XGc0 XGc1 XGc2 XGc3 XGc4 XGc5 XGc6 XGc7 XGc8 XGc9 XGc10
  have XWc0 := cell_of_row _ _ 0 _ _ (0, 0) XW.out
  have XWc1 := cell_of_row _ _ 1 _ _ (0, 0) XW.out
  have XWc2 := cell_of_row _ _ 2 _ _ (0, 0) XW.out
  have XWc3 := cell_of_row _ _ 3 _ _ (0, 0) XW.out
  have XWc4 := cell_of_row _ _ 4 _ _ (0, 0) XW.out
  have XWc5 := cell_of_row _ _ 5 _ _ (0, 0) XW.out
  have XWc6 := cell_of_row _ _ 6 _ _ (0, 0) XW.out
  have XWc7 := cell_of_row _ _ 7 _ _ (0, 0) XW.out
  have XWc8 := cell_of_row _ _ 8 _ _ (0, 0) XW.out
  have XWc9 := cell_of_row _ _ 9 _ _ (0, 0) XW.out
  have XWc10 := cell_of_row _ _ 10 _ _ (0, 0) XW.out
  simp only [List.getElem?_toArray, List.getElem?_cons_zero, List.getElem?_cons_succ] at XWc0 XWc1 XWc2 XWc3 XWc4 XWc5 XWc6 XWc7 XWc8 XWc9 XWc10
  have XGc0 := cell_of_row _ _ 0 _ _ (0, 0) XG.out
  have XGc1 := cell_of_row _ _ 1 _ _ (0, 0) XG.out
  have XGc2 := cell_of_row _ _ 2 _ _ (0, 0) XG.out
  have XGc3 := cell_of_row _ _ 3 _ _ (0, 0) XG.out
  have XGc4 := cell_of_row _ _ 4 _ _ (0, 0) XG.out
  have XGc5 := cell_of_row _ _ 5 _ _ (0, 0) XG.out
  have XGc6 := cell_of_row _ _ 6 _ _ (0, 0) XG.out
  have XGc7 := cell_of_row _ _ 7 _ _ (0, 0) XG.out
  have XGc8 := cell_of_row _ _ 8 _ _ (0, 0) XG.out
  have XGc9 := cell_of_row _ _ 9 _ _ (0, 0) XG.out
  have XGc10 := cell_of_row _ _ 10 _ _ (0, 0) XG.out
  simp only [List.getElem?_toArray, List.getElem?_cons_zero, List.getElem?_cons_succ] at XGc0 XGc1 XGc2 XGc3 XGc4 XGc5 XGc6 XGc7 XGc8 XGc9 XGc10
  have HHE := Lib.hid (fun W hi (h : AcctR.rd hi W (aCells (acctMark (id9, lm9, ps9, mo9, su9, hs9, (sp9, hd9, cs9, ss9), sl9) 1) (.slice AH_3 hs9.length cH_3) (.slice AC_3 cs9.length cC_3) (.slice AS_3 ss9.length cS_3) (.slice AL_3 sl9.length cL_3)) (acctMark (id9, lm9, ps9, mo9, su9, hs9, (sp9, hd9, cs9, ss9), sl9) 1)) (hh : hi ≤ W.heap.size) => heldAcct_any hi (.slice AH_3 hs9.length cH_3) (.slice AC_3 cs9.length cC_3) (.slice AS_3 ss9.length cS_3) (.slice AL_3 sl9.length cL_3) (id9, lm9, ps9, mo9, su9, hs9, (sp9, hd9, cs9, ss9), sl9) W HS9.out HK9.out h hh)
  have kk := kAcct_up (id9, lm9, ps9, mo9, su9, hs9, (sp9, hd9, cs9, ss9), sl9)
  generalize kAcct (id9, lm9, ps9, mo9, su9, hs9, (sp9, hd9, cs9, ss9), sl9) 1 = K0 at HHE kk ⊢
  have kk0 : ¬ (K0 < 0) := by omega
  go_wp2_with fail
  refine (HHE.out w106 _ HM.out.mine.rd (by omega)).mono ?_
  rintro e w107 ⟨rfl, hb7⟩
  have zz107 : w106.heap.size ≤ w107.heap.size := hb7.size
  have hB7 := hB6.trans (hb7.mono (show w.heap.size ≤ _ by omega))
  replace HW := Lib.hid (HW.out.below hb7 (by omega))
  replace XW := Lib.hid ((hb7.block _ (by omega)).trans XW.out)
  replace XG := Lib.hid ((hb7.block _ (by omega)).trans XG.out)
  replace HM := Lib.hid (HM.out.below hb7 (by omega))
  clear XWc0 XWc1 XWc2 XWc3 XWc4 XWc5 XWc6 XWc7 XWc8 XWc9 XWc10
  clear XGc0 XGc1 XGc2 XGc3 XGc4 XGc5 XGc6 XGc7 XGc8 XGc9 XGc10
  have XWc0 := cell_of_row _ _ 0 _ _ (0, 0) XW.out
  have XWc1 := cell_of_row _ _ 1 _ _ (0, 0) XW.out
  have XWc2 := cell_of_row _ _ 2 _ _ (0, 0) XW.out
  have XWc3 := cell_of_row _ _ 3 _ _ (0, 0) XW.out
  have XWc4 := cell_of_row _ _ 4 _ _ (0, 0) XW.out
  have XWc5 := cell_of_row _ _ 5 _ _ (0, 0) XW.out
  have XWc6 := cell_of_row _ _ 6 _ _ (0, 0) XW.out
  have XWc7 := cell_of_row _ _ 7 _ _ (0, 0) XW.out
  have XWc8 := cell_of_row _ _ 8 _ _ (0, 0) XW.out
  have XWc9 := cell_of_row _ _ 9 _ _ (0, 0) XW.out
  have XWc10 := cell_of_row _ _ 10 _ _ (0, 0) XW.out
  simp only [List.getElem?_toArray, List.getElem?_cons_zero, List.getElem?_cons_succ] at XWc0 XWc1 XWc2 XWc3 XWc4 XWc5 XWc6 XWc7 XWc8 XWc9 XWc10
  have XGc0 := cell_of_row _ _ 0 _ _ (0, 0) XG.out
  have XGc1 := cell_of_row _ _ 1 _ _ (0, 0) XG.out
  have XGc2 := cell_of_row _ _ 2 _ _ (0, 0) XG.out
  have XGc3 := cell_of_row _ _ 3 _ _ (0, 0) XG.out
  have XGc4 := cell_of_row _ _ 4 _ _ (0, 0) XG.out
  have XGc5 := cell_of_row _ _ 5 _ _ (0, 0) XG.out
  have XGc6 := cell_of_row _ _ 6 _ _ (0, 0) XG.out
  have XGc7 := cell_of_row _ _ 7 _ _ (0, 0) XG.out
  have XGc8 := cell_of_row _ _ 8 _ _ (0, 0) XG.out
  have XGc9 := cell_of_row _ _ 9 _ _ (0, 0) XG.out
  have XGc10 := cell_of_row _ _ 10 _ _ (0, 0) XG.out
  simp only [List.getElem?_toArray, List.getElem?_cons_zero, List.getElem?_cons_succ] at XGc0 XGc1 XGc2 XGc3 XGc4 XGc5 XGc6 XGc7 XGc8 XGc9 XGc10
  go_wp2_with fail
  refine (HIM.out w107 (HHD.out.below hB7 (Nat.le_refl _))).mono ?_
  rintro e w108 ⟨uh_8, uc_8, us_8, ul_8, rfl, hu8, hb8⟩
  obtain ⟨xh, xc, xs, xl, hcs, q1, q2, q3, q4⟩ := acct_rd hu8.mine.rd
  simp only [aCells, List.cons.injEq, and_true, true_and] at hcs
  obtain ⟨rfl, rfl, rfl, rfl⟩ := hcs
  simp only [aH, aS] at q1 q2 q3 q4
  obtain ⟨AH_8, cH_8, rfl, -⟩ := Rep.slice_form q1
  obtain ⟨AC_8, cC_8, rfl, -⟩ := q2.form
  obtain ⟨AS_8, cS_8, rfl, -⟩ := q3.form
  obtain ⟨AL_8, cL_8, rfl, -⟩ := Rep.slice_form q4
  clear q1 q2 q3 q4
  simp only [aId, aLim, aPos, aMost, aSum]
  have zz108 : w107.heap.size ≤ w108.heap.size := hb8.size
  have hB8 := hB7.trans (hb8.mono (show w.heap.size ≤ _ by omega))
  replace HW := Lib.hid (HW.out.below hb8 (by omega))
  replace XW := Lib.hid ((hb8.block _ (by omega)).trans XW.out)
  replace XG := Lib.hid ((hb8.block _ (by omega)).trans XG.out)
  replace HM := Lib.hid (HM.out.below hb8 (by omega))
  have HH := Lib.hid hu8
  clear XWc0 XWc1 XWc2 XWc3 XWc4 XWc5 XWc6 XWc7 XWc8 XWc9 XWc10
  clear XGc0 XGc1 XGc2 XGc3 XGc4 XGc5 XGc6 XGc7 XGc8 XGc9 XGc10
  have XWc0 := cell_of_row _ _ 0 _ _ (0, 0) XW.out
  have XWc1 := cell_of_row _ _ 1 _ _ (0, 0) XW.out
  have XWc2 := cell_of_row _ _ 2 _ _ (0, 0) XW.out
  have XWc3 := cell_of_row _ _ 3 _ _ (0, 0) XW.out
  have XWc4 := cell_of_row _ _ 4 _ _ (0, 0) XW.out
  have XWc5 := cell_of_row _ _ 5 _ _ (0, 0) XW.out
  have XWc6 := cell_of_row _ _ 6 _ _ (0, 0) XW.out
  have XWc7 := cell_of_row _ _ 7 _ _ (0, 0) XW.out
  have XWc8 := cell_of_row _ _ 8 _ _ (0, 0) XW.out
  have XWc9 := cell_of_row _ _ 9 _ _ (0, 0) XW.out
  have XWc10 := cell_of_row _ _ 10 _ _ (0, 0) XW.out
  simp only [List.getElem?_toArray, List.getElem?_cons_zero, List.getElem?_cons_succ] at XWc0 XWc1 XWc2 XWc3 XWc4 XWc5 XWc6 XWc7 XWc8 XWc9 XWc10
  have XGc0 := cell_of_row _ _ 0 _ _ (0, 0) XG.out
  have XGc1 := cell_of_row _ _ 1 _ _ (0, 0) XG.out
  have XGc2 := cell_of_row _ _ 2 _ _ (0, 0) XG.out
  have XGc3 := cell_of_row _ _ 3 _ _ (0, 0) XG.out
  have XGc4 := cell_of_row _ _ 4 _ _ (0, 0) XG.out
  have XGc5 := cell_of_row _ _ 5 _ _ (0, 0) XG.out
  have XGc6 := cell_of_row _ _ 6 _ _ (0, 0) XG.out
  have XGc7 := cell_of_row _ _ 7 _ _ (0, 0) XG.out
  have XGc8 := cell_of_row _ _ 8 _ _ (0, 0) XG.out
  have XGc9 := cell_of_row _ _ 9 _ _ (0, 0) XG.out
  have XGc10 := cell_of_row _ _ 10 _ _ (0, 0) XG.out
  simp only [List.getElem?_toArray, List.getElem?_cons_zero, List.getElem?_cons_succ] at XGc0 XGc1 XGc2 XGc3 XGc4 XGc5 XGc6 XGc7 XGc8 XGc9 XGc10
  have yy8XW : w101.heap.size < w108.heap.size := by omega
  have yy8XG : w103.heap.size < w108.heap.size := by omega
  go_wp2_with fail
  have hb9 := (Below.refl w108.heap.size w108).alloc (Nat.le_refl _) (.cells #[.string id9, .int .i64 lm9, .int .i64 ps9, .int .i64 mo9, .int .i64 su9, .slice AH_8 hs9.length cH_8, .int .i64 sp9, .int .i64 hd9, .slice AC_8 cs9.length cC_8, .slice AS_8 ss9.length cS_8, .slice AL_8 sl9.length cL_8] 28)
  have hXH := heap_alloc_new w108 (.cells #[.string id9, .int .i64 lm9, .int .i64 ps9, .int .i64 mo9, .int .i64 su9, .slice AH_8 hs9.length cH_8, .int .i64 sp9, .int .i64 hd9, .slice AC_8 cs9.length cC_8, .slice AS_8 ss9.length cS_8, .slice AL_8 sl9.length cL_8] 28)
  generalize w108.alloc (.cells #[.string id9, .int .i64 lm9, .int .i64 ps9, .int .i64 mo9, .int .i64 su9, .slice AH_8 hs9.length cH_8, .int .i64 sp9, .int .i64 hd9, .slice AC_8 cs9.length cC_8, .slice AS_8 ss9.length cS_8, .slice AL_8 sl9.length cL_8] 28) = w109 at hb9 hXH ⊢
  have zz109 : w108.heap.size ≤ w109.heap.size := hb9.size
  have zl9 : w108.heap.size < w109.heap.size := lt_of_block hXH
  have hB9 := hB8.trans (hb9.mono (show w.heap.size ≤ _ by omega))
  replace HW := Lib.hid (HW.out.below hb9 (by omega))
  replace XW := Lib.hid ((hb9.block _ (by omega)).trans XW.out)
  replace XG := Lib.hid ((hb9.block _ (by omega)).trans XG.out)
  replace HM := Lib.hid (HM.out.below hb9 (by omega))
  replace HH := Lib.hid (HH.out.below hb9 (by omega))
  have XH := Lib.hid hXH
  clear hXH
  have XHc0 := cell_of_row _ _ 0 _ _ (0, 0) XH.out
  have XHc1 := cell_of_row _ _ 1 _ _ (0, 0) XH.out
  have XHc2 := cell_of_row _ _ 2 _ _ (0, 0) XH.out
  have XHc3 := cell_of_row _ _ 3 _ _ (0, 0) XH.out
  have XHc4 := cell_of_row _ _ 4 _ _ (0, 0) XH.out
  have XHc5 := cell_of_row _ _ 5 _ _ (0, 0) XH.out
  have XHc6 := cell_of_row _ _ 6 _ _ (0, 0) XH.out
  have XHc7 := cell_of_row _ _ 7 _ _ (0, 0) XH.out
  have XHc8 := cell_of_row _ _ 8 _ _ (0, 0) XH.out
  have XHc9 := cell_of_row _ _ 9 _ _ (0, 0) XH.out
  have XHc10 := cell_of_row _ _ 10 _ _ (0, 0) XH.out
  simp only [List.getElem?_toArray, List.getElem?_cons_zero, List.getElem?_cons_succ] at XHc0 XHc1 XHc2 XHc3 XHc4 XHc5 XHc6 XHc7 XHc8 XHc9 XHc10
  go_wp2_with fail
  refine (eqAcct_any _ _ (.slice AH_8 hs9.length cH_8) (.slice AC_8 cs9.length cC_8) (.slice AS_8 ss9.length cS_8) (.slice AL_8 sl9.length cL_8) (.slice AH_1 hs9.length cH_1) (.slice AC_1 cs9.length cC_1) (.slice AS_1 ss9.length cS_1) (.slice AL_1 sl9.length cL_1) (id9, lm9, ps9, mo9, su9, hs9, (sp9, hd9, cs9, ss9), sl9) w109 HS9.out HH.out.mine.rd HW.out.rd (by omega) (by omega)).mono ?_
  rintro e w110 ⟨rfl, hb10⟩
  have zz110 : w109.heap.size ≤ w110.heap.size := hb10.size
  have hB10 := hB9.trans (hb10.mono (show w.heap.size ≤ _ by omega))
  replace HW := Lib.hid (HW.out.below hb10 (by omega))
  replace XW := Lib.hid ((hb10.block _ (by omega)).trans XW.out)
  replace XG := Lib.hid ((hb10.block _ (by omega)).trans XG.out)
  replace HM := Lib.hid (HM.out.below hb10 (by omega))
  replace HH := Lib.hid (HH.out.below hb10 (by omega))
  replace XH := Lib.hid ((hb10.block _ (by omega)).trans XH.out)
  clear XWc0 XWc1 XWc2 XWc3 XWc4 XWc5 XWc6 XWc7 XWc8 XWc9 XWc10
  clear XGc0 XGc1 XGc2 XGc3 XGc4 XGc5 XGc6 XGc7 XGc8 XGc9 XGc10
  clear XHc0 XHc1 XHc2 XHc3 XHc4 XHc5 XHc6 XHc7 XHc8 XHc9 XHc10
  have XWc0 := cell_of_row _ _ 0 _ _ (0, 0) XW.out
  have XWc1 := cell_of_row _ _ 1 _ _ (0, 0) XW.out
  have XWc2 := cell_of_row _ _ 2 _ _ (0, 0) XW.out
  have XWc3 := cell_of_row _ _ 3 _ _ (0, 0) XW.out
  have XWc4 := cell_of_row _ _ 4 _ _ (0, 0) XW.out
  have XWc5 := cell_of_row _ _ 5 _ _ (0, 0) XW.out
  have XWc6 := cell_of_row _ _ 6 _ _ (0, 0) XW.out
  have XWc7 := cell_of_row _ _ 7 _ _ (0, 0) XW.out
  have XWc8 := cell_of_row _ _ 8 _ _ (0, 0) XW.out
  have XWc9 := cell_of_row _ _ 9 _ _ (0, 0) XW.out
  have XWc10 := cell_of_row _ _ 10 _ _ (0, 0) XW.out
  simp only [List.getElem?_toArray, List.getElem?_cons_zero, List.getElem?_cons_succ] at XWc0 XWc1 XWc2 XWc3 XWc4 XWc5 XWc6 XWc7 XWc8 XWc9 XWc10
  have XGc0 := cell_of_row _ _ 0 _ _ (0, 0) XG.out
  have XGc1 := cell_of_row _ _ 1 _ _ (0, 0) XG.out
  have XGc2 := cell_of_row _ _ 2 _ _ (0, 0) XG.out
  have XGc3 := cell_of_row _ _ 3 _ _ (0, 0) XG.out
  have XGc4 := cell_of_row _ _ 4 _ _ (0, 0) XG.out
  have XGc5 := cell_of_row _ _ 5 _ _ (0, 0) XG.out
  have XGc6 := cell_of_row _ _ 6 _ _ (0, 0) XG.out
  have XGc7 := cell_of_row _ _ 7 _ _ (0, 0) XG.out
  have XGc8 := cell_of_row _ _ 8 _ _ (0, 0) XG.out
  have XGc9 := cell_of_row _ _ 9 _ _ (0, 0) XG.out
  have XGc10 := cell_of_row _ _ 10 _ _ (0, 0) XG.out
  simp only [List.getElem?_toArray, List.getElem?_cons_zero, List.getElem?_cons_succ] at XGc0 XGc1 XGc2 XGc3 XGc4 XGc5 XGc6 XGc7 XGc8 XGc9 XGc10
  have XHc0 := cell_of_row _ _ 0 _ _ (0, 0) XH.out
  have XHc1 := cell_of_row _ _ 1 _ _ (0, 0) XH.out
  have XHc2 := cell_of_row _ _ 2 _ _ (0, 0) XH.out
  have XHc3 := cell_of_row _ _ 3 _ _ (0, 0) XH.out
  have XHc4 := cell_of_row _ _ 4 _ _ (0, 0) XH.out
  have XHc5 := cell_of_row _ _ 5 _ _ (0, 0) XH.out
  have XHc6 := cell_of_row _ _ 6 _ _ (0, 0) XH.out
  have XHc7 := cell_of_row _ _ 7 _ _ (0, 0) XH.out
  have XHc8 := cell_of_row _ _ 8 _ _ (0, 0) XH.out
  have XHc9 := cell_of_row _ _ 9 _ _ (0, 0) XH.out
  have XHc10 := cell_of_row _ _ 10 _ _ (0, 0) XH.out
  simp only [List.getElem?_toArray, List.getElem?_cons_zero, List.getElem?_cons_succ] at XHc0 XHc1 XHc2 XHc3 XHc4 XHc5 XHc6 XHc7 XHc8 XHc9 XHc10
  go_wp2_with fail
  refine (HHE.out w110 _ HM.out.mine.rd (by omega)).mono ?_
  rintro e w111 ⟨rfl, hb11⟩
  have zz111 : w110.heap.size ≤ w111.heap.size := hb11.size
  have hB11 := hB10.trans (hb11.mono (show w.heap.size ≤ _ by omega))
  replace HW := Lib.hid (HW.out.below hb11 (by omega))
  replace XW := Lib.hid ((hb11.block _ (by omega)).trans XW.out)
  replace XG := Lib.hid ((hb11.block _ (by omega)).trans XG.out)
  replace HM := Lib.hid (HM.out.below hb11 (by omega))
  replace HH := Lib.hid (HH.out.below hb11 (by omega))
  replace XH := Lib.hid ((hb11.block _ (by omega)).trans XH.out)
  clear XWc0 XWc1 XWc2 XWc3 XWc4 XWc5 XWc6 XWc7 XWc8 XWc9 XWc10
  clear XGc0 XGc1 XGc2 XGc3 XGc4 XGc5 XGc6 XGc7 XGc8 XGc9 XGc10
  clear XHc0 XHc1 XHc2 XHc3 XHc4 XHc5 XHc6 XHc7 XHc8 XHc9 XHc10
  have XWc0 := cell_of_row _ _ 0 _ _ (0, 0) XW.out
  have XWc1 := cell_of_row _ _ 1 _ _ (0, 0) XW.out
  have XWc2 := cell_of_row _ _ 2 _ _ (0, 0) XW.out
  have XWc3 := cell_of_row _ _ 3 _ _ (0, 0) XW.out
  have XWc4 := cell_of_row _ _ 4 _ _ (0, 0) XW.out
  have XWc5 := cell_of_row _ _ 5 _ _ (0, 0) XW.out
  have XWc6 := cell_of_row _ _ 6 _ _ (0, 0) XW.out
  have XWc7 := cell_of_row _ _ 7 _ _ (0, 0) XW.out
  have XWc8 := cell_of_row _ _ 8 _ _ (0, 0) XW.out
  have XWc9 := cell_of_row _ _ 9 _ _ (0, 0) XW.out
  have XWc10 := cell_of_row _ _ 10 _ _ (0, 0) XW.out
  simp only [List.getElem?_toArray, List.getElem?_cons_zero, List.getElem?_cons_succ] at XWc0 XWc1 XWc2 XWc3 XWc4 XWc5 XWc6 XWc7 XWc8 XWc9 XWc10
  have XGc0 := cell_of_row _ _ 0 _ _ (0, 0) XG.out
  have XGc1 := cell_of_row _ _ 1 _ _ (0, 0) XG.out
  have XGc2 := cell_of_row _ _ 2 _ _ (0, 0) XG.out
  have XGc3 := cell_of_row _ _ 3 _ _ (0, 0) XG.out
  have XGc4 := cell_of_row _ _ 4 _ _ (0, 0) XG.out
  have XGc5 := cell_of_row _ _ 5 _ _ (0, 0) XG.out
  have XGc6 := cell_of_row _ _ 6 _ _ (0, 0) XG.out
  have XGc7 := cell_of_row _ _ 7 _ _ (0, 0) XG.out
  have XGc8 := cell_of_row _ _ 8 _ _ (0, 0) XG.out
  have XGc9 := cell_of_row _ _ 9 _ _ (0, 0) XG.out
  have XGc10 := cell_of_row _ _ 10 _ _ (0, 0) XG.out
  simp only [List.getElem?_toArray, List.getElem?_cons_zero, List.getElem?_cons_succ] at XGc0 XGc1 XGc2 XGc3 XGc4 XGc5 XGc6 XGc7 XGc8 XGc9 XGc10
  have XHc0 := cell_of_row _ _ 0 _ _ (0, 0) XH.out
  have XHc1 := cell_of_row _ _ 1 _ _ (0, 0) XH.out
  have XHc2 := cell_of_row _ _ 2 _ _ (0, 0) XH.out
  have XHc3 := cell_of_row _ _ 3 _ _ (0, 0) XH.out
  have XHc4 := cell_of_row _ _ 4 _ _ (0, 0) XH.out
  have XHc5 := cell_of_row _ _ 5 _ _ (0, 0) XH.out
  have XHc6 := cell_of_row _ _ 6 _ _ (0, 0) XH.out
  have XHc7 := cell_of_row _ _ 7 _ _ (0, 0) XH.out
  have XHc8 := cell_of_row _ _ 8 _ _ (0, 0) XH.out
  have XHc9 := cell_of_row _ _ 9 _ _ (0, 0) XH.out
  have XHc10 := cell_of_row _ _ 10 _ _ (0, 0) XH.out
  simp only [List.getElem?_toArray, List.getElem?_cons_zero, List.getElem?_cons_succ] at XHc0 XHc1 XHc2 XHc3 XHc4 XHc5 XHc6 XHc7 XHc8 XHc9 XHc10
  go_wp2
  go_ret
  exact ⟨rfl, hB11⟩

set_option maxRecDepth 100000 in
theorem t0 : (Tryd.prog.globals[0]?).map (·.type) = some 103 := by kernel_rfl
set_option maxRecDepth 100000 in
theorem g0 : Tryd.prog.globalNamed "loop.example/g00735/impl.errNotMoney" = some 0 := by kernel_rfl
set_option maxRecDepth 100000 in
theorem cellsE : Tryd.prog.cellsOf 160 = 1 := by kernel_rfl
set_option maxRecDepth 100000 in
theorem cellsS : Tryd.prog.cellsOf 9 = 1 := by kernel_rfl
set_option maxRecDepth 100000 in
theorem star : "*" ++ "errors.errorString" = "*errors.errorString" := by decide
set_option maxRecDepth 100000 in
theorem rowE (u : TypeId) (h : Tryd.prog.typeName? 3 u = some "*errors.errorString") : u = 138 :=
  typeName_ptr_named (nm := "errors.errorString") (by rw [star]; kernel_rfl) (by kernel_rfl) (by decide) u (by rw [star]; exact h)
set_option maxRecDepth 100000 in
theorem gH : Tryd.prog.globalNamed "errors.errorType" = some 1 := by kernel_rfl
set_option maxRecDepth 100000 in
theorem rtH : (Tryd.prog.cutTypes.find? (·.1 == "internal/reflectlite.rtype")).map (·.2) = some 125 := by kernel_rfl
set_option maxRecDepth 100000 in
theorem oneH : ((List.range Tryd.prog.types.size).filter fun t => Tryd.prog.rowNamed t [101, 114, 114, 111, 114]) = [103] := by kernel_rfl
set_option maxRecDepth 100000 in
theorem handle_of {W : World} (h : handlesMet Tryd.prog [("errors.errorType", Rows.laid_errors_errorType)] W) : W.cell? ⟨1, 0, none⟩ = some (.iface 125 (.agg #[.pointer (some ⟨2, 103, none⟩)])) := by
  obtain ⟨name, u, ty, e1, e2, e3, e4, e5⟩ := h _ (List.mem_singleton.2 rfl)
  have en : name = [101, 114, 114, 111, 114] := (Option.some.inj e1).symm
  subst en
  obtain rfl := Option.some.inj (rtH.symm.trans e2)
  have hm : ty ∈ (List.range Tryd.prog.types.size).filter fun t => Tryd.prog.rowNamed t [101, 114, 114, 111, 114] := List.mem_filter.2 ⟨List.mem_range.2 e3, e4⟩
  rw [oneH] at hm
  obtain rfl := List.mem_singleton.1 hm
  have hh : typeHandle Tryd.prog 103 = .pointer (some ⟨2, 103, none⟩) := by kernel_rfl
  rw [hh] at e5
  simpa using World.var?_cell gH e5 0

set_option maxRecDepth 100000 in
theorem laidOut : laidOutB Tryd.prog = true := by kernel_rfl
set_option maxRecDepth 100000 in
theorem rowed : allRowed Tryd.prog Tryd.f3.params.toList = true := by kernel_rfl
set_option maxRecDepth 100000 in
theorem resT : Tryd.f3.resultTypes = #[4] := by kernel_rfl
set_option maxRecDepth 100000 in
theorem door_met (os : Os) (args : Array Value) : laidMetH Tryd.prog Rows.fnExactAcctNewRow.laid ((World.doorLaid Tryd.prog 400 os).forCall (fun _ _ => 0) ⟨#[], args, []⟩).memory :=
  laidMetH_of_parts3 (fuel := 8) (laidMet_of_run' 8 (by kernel_rfl) (by kernel_rfl)) (by kernel_rfl) (by kernel_rfl)

set_option maxRecDepth 100000 in
theorem lifted (os : Os) (started : os.Started) (H : Type) (enc : TypeId × Value → H) :
    ReturnsInHanded {} Tryd.checked os 3 .any (fun w args => (Rows.fnExactAcctNewSpec.pre enc Tryd.prog Tryd.f3 [] false w args ∧ laidMetH Tryd.prog Rows.fnExactAcctNewRow.laid w) ∧ sizedMet enc Tryd.prog Tryd.f3 (OpenSpec.ofChange Rows.fnExactAcctNewSpec) false w args)
      (Rows.fnExactAcctNewSpec.post enc Tryd.prog Tryd.f3 false true false false) := by
  refine returnsInHanded_of_change_and (C := Tryd.checked) (X := fun w _ => laidMetH Tryd.prog Rows.fnExactAcctNewRow.laid w) (fun _ _ _ hh h => h.of_heap hh) own started (by kernel_rfl) Tryd.func3
    (ChangeSpec.witness_shaped (enc := enc) (C := Tryd.checked) (os := os) (X := fun w _ => laidMetH Tryd.prog Rows.fnExactAcctNewRow.laid w) false (World.doorLaid Tryd.prog 400 os) #[.string ByteArray.empty, .int .i64 0, .int .i64 0, .int .i64 0, .int .i64 0, .int .i64 0] 8 rfl (World.shaped_of_RefB (by kernel_rfl) (by kernel_rfl)) (by kernel_rfl) (by kernel_rfl) (by kernel_rfl) (door_met os _)) ?_
  intro W base args ds gs before hval0 hW _ _ hL0 _
  have hval : ∀ (j : Nat) t v, Tryd.f3.params[j]? = some t → args[j]? = some v → Value.okWide Tryd.prog W .any base t v := hval0
  have hW' := hW
  obtain ⟨p, q, hA0, hV, rfl, hfz, hnd⟩ := hW
  have hA : DataW.TrodAll enc Tryd.prog W 0 (fun _ => true) true Tryd.f3.params.toList args.toList ds p := hA0
  rw [Tryd.params3] at hA hval
  have hh := handle_of hL0.2
  have hL : laidMet Tryd.prog [("loop.example/g00735/impl.errNotMoney", Rows.laid_loop_example_g00735_impl_errNotMoney)] W := hL0.1
  obtain ⟨b0, s0, hv0, _, _, _⟩ := laid_sentinel hL g0 t0 Tryd.underlying103 rowE Tryd.underlying138 Tryd.underlying160 rfl rfl Tryd.underlying9 cellsE cellsS
  have hc0 : W.cell? ⟨0, 0, none⟩ = some (.iface 138 (.pointer (some b0))) := by simpa using World.var?_cell g0 hv0 0
  have hlt0 : 0 < W.heap.size := by
    rcases Nat.lt_or_ge 0 W.heap.size with h | h
    · exact h
    · simp [World.cell?, Array.getElem?_eq_none h] at hc0
  obtain ⟨v0, vs0, d0, ds0, p0, q0, hargs, rfl, rfl, h0, r0⟩ := trodAll_cons hA
  obtain ⟨v1, vs1, d1, ds1, p1, q1, rfl, rfl, rfl, h1, r1⟩ := trodAll_cons r0
  obtain ⟨v2, vs2, d2, ds2, p2, q2, rfl, rfl, rfl, h2, r2⟩ := trodAll_cons r1
  obtain ⟨v3, vs3, d3, ds3, p3, q3, rfl, rfl, rfl, h3, r3⟩ := trodAll_cons r2
  obtain ⟨v4, vs4, d4, ds4, p4, q4, rfl, rfl, rfl, h4, r4⟩ := trodAll_cons r3
  obtain ⟨v5, vs5, d5, ds5, p5, q5, rfl, rfl, rfl, h5, r5⟩ := trodAll_cons r4
  obtain ⟨rfl, rfl, rfl⟩ := trodAll_nil r5
  obtain rfl : args = #[v0, v1, v2, v3, v4, v5] := by cases args; simp_all
  obtain ⟨rfl, rfl⟩ := hV.unique (vars_read1 enc g0 t0 Tryd.underlying103 hv0 trivial _)
  obtain ⟨a0, rfl, rfl, rfl, w0⟩ := open_string Tryd.underlying9 (hval 0 9 v0 rfl rfl) h0
  obtain ⟨a1, rfl, rfl, rfl, w1⟩ := open_int Tryd.underlying3 (hval 1 3 v1 rfl rfl) h1
  obtain ⟨a2, rfl, rfl, rfl, w2⟩ := open_int Tryd.underlying3 (hval 2 3 v2 rfl rfl) h2
  obtain ⟨a3, rfl, rfl, rfl, w3⟩ := open_int Tryd.underlying3 (hval 3 3 v3 rfl rfl) h3
  obtain ⟨a4, rfl, rfl, rfl, w4⟩ := open_int Tryd.underlying3 (hval 4 3 v4 rfl rfl) h4
  obtain ⟨a5, rfl, rfl, rfl, w5⟩ := open_int Tryd.underlying3 (hval 5 3 v5 rfl rfl) h5
  clear hA0 hval0
  refine (walk W _ hc0 hh _ _ _ _ _ _ w0 w1 w2 w3 w4 w5).mono fun e W' ⟨he, hg⟩ => ?_
  subst he
  exact ⟨_, rfl, post_true laidOut rowed hW' rfl resT Tryd.underlying4 hg (vars_read1 enc g0 t0 Tryd.underlying103 (var?_below hg g0 hlt0 hv0) trivial _)⟩

set_option maxRecDepth 100000 in
theorem over : Rows.fnExactAcctNewRow.holds Tryd.pinned (OpenSpec.ofChange Rows.fnExactAcctNewSpec) :=
  OpenClaim.holds_of_wide 3 Tryd.f3 rfl rfl rfl rfl rfl rfl rfl ⟨rfl, rfl, rfl, rfl, rfl⟩ rfl rfl rfl rfl rfl (by kernel_rfl) Tryd.func3 (by kernel_rfl)
    (of_decide_eq_true (by kernel_rfl)) (by unfold Func.isWrapper; first | (rw [if_pos (by decide +kernel)]; kernel_rfl) | (rw [if_neg (by decide +kernel)]; exact ⟨rfl, rfl⟩))
    (fun os started H enc _ => lifted os started H enc)

set_option maxRecDepth 100000 in
theorem said : Rows.FnExactAcctNewSaid :=
  over

set_option maxRecDepth 100000 in
theorem plain (f : FuncId) (fn : Func) (hf : Tryd.pinned.checked.prog.funcNamed "loop.example/g00735/laws.FnExactAcctNew" = some f) (hfn : Tryd.pinned.checked.prog.funcs[f]? = some fn) :
    Rows.fnExactAcctNewCard.stood.looks = Tryd.pinned.checked.prog.looks [] ∧ ∀ (j : Nat) t, fn.params[j]? = some t → Tryd.pinned.checked.prog.wantsStandIn t = false := by
  obtain rfl : f = 3 := Option.some.inj ((show Tryd.prog.funcNamed "loop.example/g00735/laws.FnExactAcctNew" = some 3 by kernel_rfl).symm.trans hf) |>.symm
  obtain rfl : fn = Tryd.f3 := (Option.some.inj (Tryd.func3.symm.trans hfn)).symm
  refine ⟨by kernel_rfl, fun j t ht => ?_⟩
  rw [Tryd.params3] at ht
  have hm : t ∈ [9, 3, 3, 3, 3, 3] := by simpa using Array.mem_of_getElem? ht
  have hall : ([9, 3, 3, 3, 3, 3].all fun u => !Tryd.prog.wantsStandIn u) = true := by kernel_rfl
  exact (show Tryd.prog.wantsStandIn t = false by simpa using List.all_eq_true.1 hall t hm)

set_option maxRecDepth 100000 in
theorem proved : Rows.FnExactAcctNewCardSaid :=
  Claim7.holds_tied_plain_at .later [] _ _ _ _ said (fun _ h => by cases h) (by kernel_rfl) (fun _ h => by cases h) fnExactAcctNew_row_tie rfl ⟨rfl, rfl⟩ (by kernel_rfl) rfl plain (by kernel_rfl)
#print axioms proved
end Go.Proofs.YtpeeagkfhdeagaaDoor.fnExactAcctNew
