/- The walk of Ask; conditions: those that it names. -/
import Derived.Test.YtnmijppppcgobaaGreatDoorMrg19
import Derived.Test.YtnmijppppcgobaaGreatDoorMrg8
import Derived.Test.YtnmijppppcgobaaGreatDoorMrg10
import Derived.Stop.LaidErr
import Derived.LaidMore
import Derived.Stop.Joined
import Derived.SevenTiedAt
import Derived.WalkSmall
import Derived.Lib.LaidTab
import Derived.Lib.ItoaNum
import Derived.LaidHandle
import Derived.Test.YtnmijppppcgobaaGreatDoorMrg5
import Derived.Test.YtnmijppppcgobaaGreatDoorMrg2
import Derived.Test.YtnmijppppcgobaaGreatDoorMrg6
import Derived.Deep.RegionHeld3
namespace Go.Proofs.YtnmijppppcgobaaGreatDoor.fnExactAsk
open Go.ChangeShapes Go.WideShapes Go.ChangeAt Go.RowKit
open Go.WideMaps Go.WideElems
open Go.ChangeMaps (open_string shut_string)
set_option linter.unusedVariables false

set_option maxRecDepth 100000 in
set_option maxHeartbeats 8000000 in
theorem walk (w : World) (p0 : Addr) (hc0 : w.cell? ⟨0, 0, none⟩ = some (.iface 266 (.pointer (some p0)))) (htab : Lib.TabIs Tryz.prog w "internal/strconv.uint64pow10" .u64 Lib.pow10Tab) (hh : w.cell? ⟨1, 0, none⟩ = some (.iface 230 (.agg #[.pointer (some ⟨6, 149, none⟩)]))) (a0 : AcctD) (vh0 vc0 vs0 vl0 : Value) (a1 : Int) (w0 : AcctR.rd w.heap.size w (aCells a0 vh0 vc0 vs0 vl0) a0) (z0 : acctBig a0) (w1 : (Lit.int .i64 a1).wf = true) :
    Calls Tryz.prog 14 #[.agg #[.string (aId a0), .int .i64 (aLim a0), .int .i64 (aPos a0), .int .i64 (aMost a0), .int .i64 (aSum a0), vh0, .int .i64 (aR a0).1, .int .i64 (aR a0).2.1, vc0, vs0, vl0], .int .i64 a1] w fun e w' => e = .returned (.bool true) ∧ Below w.heap.size w w' := by
  obtain ⟨id0, lm0, ps0, mo0, su0, hs0, ⟨sp0, hd0, cs0, ss0⟩, sl0⟩ := a0
  obtain ⟨xh, xc, xs, xl, hcs, q1, q2, q3, q4⟩ := acct_rd w0
  simp only [aCells, List.cons.injEq, and_true, true_and] at hcs
  obtain ⟨rfl, rfl, rfl, rfl⟩ := hcs
  simp only [aH, aS] at q1 q2 q3 q4
  obtain ⟨AH0, cH0, rfl, -⟩ := Rep.slice_form q1
  obtain ⟨AC0, cC0, rfl, -⟩ := q2.form
  obtain ⟨AS0, cS0, rfl, -⟩ := q3.form
  obtain ⟨AL0, cL0, rfl, -⟩ := Rep.slice_form q4
  have HX0 := Lib.hid w0
  have HY0 := Lib.hid z0
  clear w0 z0 q1 q2 q3 q4
  simp only [aId, aLim, aPos, aMost, aSum]
  have HB0 : Hid (Below w.heap.size w (w.alloc (.cells #[.string id0, .int .i64 lm0, .int .i64 ps0, .int .i64 mo0, .int .i64 su0, .slice AH0 hs0.length cH0, .int .i64 sp0, .int .i64 hd0, .slice AC0 cs0.length cC0, .slice AS0 ss0.length cS0, .slice AL0 sl0.length cL0] 59))) := Lib.hid ((Below.refl w.heap.size w).alloc (Nat.le_refl _) (.cells #[.string id0, .int .i64 lm0, .int .i64 ps0, .int .i64 mo0, .int .i64 su0, .slice AH0 hs0.length cH0, .int .i64 sp0, .int .i64 hd0, .slice AC0 cs0.length cC0, .slice AS0 ss0.length cS0, .slice AL0 sl0.length cL0] 59))
  have HX : Hid (∀ wr, Below (w.heap.size + 1) (w.alloc (.cells #[.string id0, .int .i64 lm0, .int .i64 ps0, .int .i64 mo0, .int .i64 su0, .slice AH0 hs0.length cH0, .int .i64 sp0, .int .i64 hd0, .slice AC0 cs0.length cC0, .slice AS0 ss0.length cS0, .slice AL0 sl0.length cL0] 59)) wr → wr.cell? ⟨w.heap.size, 0, none⟩ = some (.string id0) ∧ wr.cell? ⟨w.heap.size, 1, none⟩ = some (.int .i64 lm0) ∧ wr.cell? ⟨w.heap.size, 2, none⟩ = some (.int .i64 ps0) ∧ wr.cell? ⟨w.heap.size, 3, none⟩ = some (.int .i64 mo0) ∧ wr.cell? ⟨w.heap.size, 4, none⟩ = some (.int .i64 su0) ∧ wr.cell? ⟨w.heap.size, 5, none⟩ = some (.slice AH0 hs0.length cH0) ∧ wr.cell? ⟨w.heap.size, 6, none⟩ = some (.int .i64 sp0) ∧ wr.cell? ⟨w.heap.size, 7, none⟩ = some (.int .i64 hd0) ∧ wr.cell? ⟨w.heap.size, 8, none⟩ = some (.slice AC0 cs0.length cC0) ∧ wr.cell? ⟨w.heap.size, 9, none⟩ = some (.slice AS0 ss0.length cS0) ∧ wr.cell? ⟨w.heap.size, 10, none⟩ = some (.slice AL0 sl0.length cL0)) := Lib.hid fun wr hw => ⟨(hw.cell (p := ⟨w.heap.size, 0, none⟩) (show w.heap.size < _ by omega)).trans (by simp), (hw.cell (p := ⟨w.heap.size, 1, none⟩) (show w.heap.size < _ by omega)).trans (by simp), (hw.cell (p := ⟨w.heap.size, 2, none⟩) (show w.heap.size < _ by omega)).trans (by simp), (hw.cell (p := ⟨w.heap.size, 3, none⟩) (show w.heap.size < _ by omega)).trans (by simp), (hw.cell (p := ⟨w.heap.size, 4, none⟩) (show w.heap.size < _ by omega)).trans (by simp), (hw.cell (p := ⟨w.heap.size, 5, none⟩) (show w.heap.size < _ by omega)).trans (by simp), (hw.cell (p := ⟨w.heap.size, 6, none⟩) (show w.heap.size < _ by omega)).trans (by simp), (hw.cell (p := ⟨w.heap.size, 7, none⟩) (show w.heap.size < _ by omega)).trans (by simp), (hw.cell (p := ⟨w.heap.size, 8, none⟩) (show w.heap.size < _ by omega)).trans (by simp), (hw.cell (p := ⟨w.heap.size, 9, none⟩) (show w.heap.size < _ by omega)).trans (by simp), (hw.cell (p := ⟨w.heap.size, 10, none⟩) (show w.heap.size < _ by omega)).trans (by simp)⟩
  have hgp : 3 < w.heap.size := tab_in htab
  have HTB : Hid (∀ V, Below w.heap.size w V → Lib.TabIs Tryz.prog V "internal/strconv.uint64pow10" .u64 Lib.pow10Tab) := Lib.hid fun V h => var?_below h (by kernel_rfl) hgp htab
  clear htab
  have HHD : Hid (Handle w) := Lib.hid hh
  clear hh hgp
  clear w1
  go_enter Tryz.func14, Tryz.ntmps14
  go_wp2_with fail
  refine (szAcct_any w.heap.size (.slice AH0 hs0.length cH0) (.slice AC0 cs0.length cC0) (.slice AS0 ss0.length cS0) (.slice AL0 sl0.length cL0) (id0, lm0, ps0, mo0, su0, hs0, (sp0, hd0, cs0, ss0), sl0) 1048576 (w.alloc (.cells #[.string id0, .int .i64 lm0, .int .i64 ps0, .int .i64 mo0, .int .i64 su0, .slice AH0 hs0.length cH0, .int .i64 sp0, .int .i64 hd0, .slice AC0 cs0.length cC0, .slice AS0 ss0.length cS0, .slice AL0 sl0.length cL0] 59)) HY0.out (Rep.below (R := AcctR) HX0.out HB0.out (Nat.le_refl _)) (by first | omega | (simp <;> omega)) (by omega) (by omega)).mono ?_
  rintro e w101 ⟨r0, rfl, hr0, hb1⟩
  have zz101 : w.heap.size + 1 ≤ w101.heap.size := by have := hb1.size; simp at this; omega
  have hB1 : Below (w.heap.size + 1) (w.alloc (.cells #[.string id0, .int .i64 lm0, .int .i64 ps0, .int .i64 mo0, .int .i64 su0, .slice AH0 hs0.length cH0, .int .i64 sp0, .int .i64 hd0, .slice AC0 cs0.length cC0, .slice AS0 ss0.length cS0, .slice AL0 sl0.length cL0] 59)) w101 := hb1.mono (by simp <;> omega)
  have hw1 : Below w.heap.size w w101 := HB0.out.trans (hb1.mono (by simp <;> omega))
  replace HX0 := Lib.hid (Rep.below (R := AcctR) HX0.out hw1 (Nat.le_refl _))
  obtain ⟨x_0, x_1, x_2, x_3, x_4, x_5, x_6, x_7, x_8, x_9, x_10⟩ := HX.out w101 hB1
  rcases hr0 with rfl | ⟨hr0, hp0⟩
  · go_wp2
    go_ret
    exact ⟨rfl, (HB0.out.trans (hB1.mono (by first | omega | (simp <;> omega))))⟩
  have hxz0 : acctSz (id0, lm0, ps0, mo0, su0, hs0, (sp0, hd0, cs0, ss0), sl0) ≤ 1048576 := by omega
  have HS0 := Lib.hid (acct_small hxz0)
  have hq0 : r0 ≤ 1048576 := by omega
  have HR0 := Lib.hid hr0
  have HXZ0 := Lib.hid hxz0
  clear hr0 hxz0
  go_wp2_with fail
  refine (toAcct_any w.heap.size (.slice AH0 hs0.length cH0) (.slice AC0 cs0.length cC0) (.slice AS0 ss0.length cS0) (.slice AL0 sl0.length cL0) (id0, lm0, ps0, mo0, su0, hs0, (sp0, hd0, cs0, ss0), sl0) w101 HS0.out HX0.out (by omega)).mono ?_
  rintro e w102 ⟨uh_2, uc_2, us_2, ul_2, rfl, hu2, hb2⟩
  obtain ⟨xh, xc, xs, xl, hcs, q1, q2, q3, q4⟩ := acct_rd hu2.rd
  simp only [aCells, List.cons.injEq, and_true, true_and] at hcs
  obtain ⟨rfl, rfl, rfl, rfl⟩ := hcs
  simp only [aH, aS] at q1 q2 q3 q4
  obtain ⟨AH_2, cH_2, rfl, -⟩ := Rep.slice_form q1
  obtain ⟨AC_2, cC_2, rfl, -⟩ := q2.form
  obtain ⟨AS_2, cS_2, rfl, -⟩ := q3.form
  obtain ⟨AL_2, cL_2, rfl, -⟩ := Rep.slice_form q4
  clear q1 q2 q3 q4
  simp only [aId, aLim, aPos, aMost, aSum]
  have zz102 : w101.heap.size ≤ w102.heap.size := hb2.size
  have hB2 := hB1.trans (hb2.mono (show w.heap.size + 1 ≤ _ by omega))
  replace HX0 := Lib.hid (Rep.below (R := AcctR) HX0.out hb2 (by omega))
  clear x_0 x_1 x_2 x_3 x_4 x_5 x_6 x_7 x_8 x_9 x_10
  obtain ⟨x_0, x_1, x_2, x_3, x_4, x_5, x_6, x_7, x_8, x_9, x_10⟩ := HX.out w102 hB2
  have H2 := Lib.hid hu2
  go_wp2_with fail
  refine (specAsk_any _ (.slice AH_2 hs0.length cH_2) (.slice AC_2 cs0.length cC_2) (.slice AS_2 ss0.length cS_2) (.slice AL_2 sl0.length cL_2) (id0, lm0, ps0, mo0, su0, hs0, (sp0, hd0, cs0, ss0), sl0) a1 w102 HS0.out HY0.out H2.out.rd (by omega)).mono ?_
  rintro e w103 ⟨rfl, hb3⟩
  have zz103 : w102.heap.size ≤ w103.heap.size := hb3.size
  have hB3 := hB2.trans (hb3.mono (show w.heap.size + 1 ≤ _ by omega))
  replace HX0 := Lib.hid (Rep.below (R := AcctR) HX0.out hb3 (by omega))
  replace H2 := Lib.hid (H2.out.below hb3 (by omega))
  clear x_0 x_1 x_2 x_3 x_4 x_5 x_6 x_7 x_8 x_9 x_10
  obtain ⟨x_0, x_1, x_2, x_3, x_4, x_5, x_6, x_7, x_8, x_9, x_10⟩ := HX.out w103 hB3
  clear H2
  go_wp2_with fail
  refine (toAcct_any w.heap.size (.slice AH0 hs0.length cH0) (.slice AC0 cs0.length cC0) (.slice AS0 ss0.length cS0) (.slice AL0 sl0.length cL0) (id0, lm0, ps0, mo0, su0, hs0, (sp0, hd0, cs0, ss0), sl0) w103 HS0.out HX0.out (by omega)).mono ?_
  rintro e w104 ⟨uh_4, uc_4, us_4, ul_4, rfl, hu4, hb4⟩
  obtain ⟨xh, xc, xs, xl, hcs, q1, q2, q3, q4⟩ := acct_rd hu4.rd
  simp only [aCells, List.cons.injEq, and_true, true_and] at hcs
  obtain ⟨rfl, rfl, rfl, rfl⟩ := hcs
  simp only [aH, aS] at q1 q2 q3 q4
  obtain ⟨AH_4, cH_4, rfl, -⟩ := Rep.slice_form q1
  obtain ⟨AC_4, cC_4, rfl, -⟩ := q2.form
  obtain ⟨AS_4, cS_4, rfl, -⟩ := q3.form
  obtain ⟨AL_4, cL_4, rfl, -⟩ := Rep.slice_form q4
  clear q1 q2 q3 q4
  simp only [aId, aLim, aPos, aMost, aSum]
  have zz104 : w103.heap.size ≤ w104.heap.size := hb4.size
  have hB4 := hB3.trans (hb4.mono (show w.heap.size + 1 ≤ _ by omega))
  replace HX0 := Lib.hid (Rep.below (R := AcctR) HX0.out hb4 (by omega))
  clear x_0 x_1 x_2 x_3 x_4 x_5 x_6 x_7 x_8 x_9 x_10
  obtain ⟨x_0, x_1, x_2, x_3, x_4, x_5, x_6, x_7, x_8, x_9, x_10⟩ := HX.out w104 hB4
  have H4 := Lib.hid hu4
  have yy4_0 : w.heap.size < w104.heap.size := by omega
  go_wp2_with fail
  have hb5 := (Below.refl w104.heap.size w104).alloc (Nat.le_refl _) (.cells #[.string id0, .int .i64 lm0, .int .i64 ps0, .int .i64 mo0, .int .i64 su0, .slice AH_4 hs0.length cH_4, .int .i64 sp0, .int .i64 hd0, .slice AC_4 cs0.length cC_4, .slice AS_4 ss0.length cS_4, .slice AL_4 sl0.length cL_4] 29)
  have hX4 := heap_alloc_new w104 (.cells #[.string id0, .int .i64 lm0, .int .i64 ps0, .int .i64 mo0, .int .i64 su0, .slice AH_4 hs0.length cH_4, .int .i64 sp0, .int .i64 hd0, .slice AC_4 cs0.length cC_4, .slice AS_4 ss0.length cS_4, .slice AL_4 sl0.length cL_4] 29)
  generalize w104.alloc (.cells #[.string id0, .int .i64 lm0, .int .i64 ps0, .int .i64 mo0, .int .i64 su0, .slice AH_4 hs0.length cH_4, .int .i64 sp0, .int .i64 hd0, .slice AC_4 cs0.length cC_4, .slice AS_4 ss0.length cS_4, .slice AL_4 sl0.length cL_4] 29) = w105 at hb5 hX4 ⊢
  have zz105 : w104.heap.size ≤ w105.heap.size := hb5.size
  have zl5 : w104.heap.size < w105.heap.size := lt_of_block hX4
  have hB5 := hB4.trans (hb5.mono (show w.heap.size + 1 ≤ _ by omega))
  replace HX0 := Lib.hid (Rep.below (R := AcctR) HX0.out hb5 (by omega))
  replace H4 := Lib.hid (H4.out.below hb5 (by omega))
  have X4 := Lib.hid hX4
  clear hX4
  clear x_0 x_1 x_2 x_3 x_4 x_5 x_6 x_7 x_8 x_9 x_10
  obtain ⟨x_0, x_1, x_2, x_3, x_4, x_5, x_6, x_7, x_8, x_9, x_10⟩ := HX.out w105 hB5
  have X4c0 := cell_of_row _ _ 0 _ _ (0, 0) X4.out
  have X4c1 := cell_of_row _ _ 1 _ _ (0, 0) X4.out
  have X4c2 := cell_of_row _ _ 2 _ _ (0, 0) X4.out
  have X4c3 := cell_of_row _ _ 3 _ _ (0, 0) X4.out
  have X4c4 := cell_of_row _ _ 4 _ _ (0, 0) X4.out
  have X4c5 := cell_of_row _ _ 5 _ _ (0, 0) X4.out
  have X4c6 := cell_of_row _ _ 6 _ _ (0, 0) X4.out
  have X4c7 := cell_of_row _ _ 7 _ _ (0, 0) X4.out
  have X4c8 := cell_of_row _ _ 8 _ _ (0, 0) X4.out
  have X4c9 := cell_of_row _ _ 9 _ _ (0, 0) X4.out
  have X4c10 := cell_of_row _ _ 10 _ _ (0, 0) X4.out
  simp only [List.getElem?_toArray, List.getElem?_cons_zero, List.getElem?_cons_succ] at X4c0 X4c1 X4c2 X4c3 X4c4 X4c5 X4c6 X4c7 X4c8 X4c9 X4c10
  go_wp2_with fail
  refine (implAsk_any _ (.slice AH_4 hs0.length cH_4) (.slice AC_4 cs0.length cC_4) (.slice AS_4 ss0.length cS_4) (.slice AL_4 sl0.length cL_4) (id0, lm0, ps0, mo0, su0, hs0, (sp0, hd0, cs0, ss0), sl0) a1 w105 (HTB.out _ (HB0.out.trans (hB5.mono (by first | omega | (simp <;> omega))))) (HHD.out.below (HB0.out.trans (hB5.mono (by first | omega | (simp <;> omega)))) (Nat.le_refl _)) HS0.out HY0.out H4.out.rd (by omega)).mono ?_
  rintro e w106 ⟨rfl, hb6⟩
  have zz106 : w105.heap.size ≤ w106.heap.size := hb6.size
  have hB6 := hB5.trans (hb6.mono (show w.heap.size + 1 ≤ _ by omega))
  replace HX0 := Lib.hid (Rep.below (R := AcctR) HX0.out hb6 (by omega))
  replace H4 := Lib.hid (H4.out.below hb6 (by omega))
  replace X4 := Lib.hid ((hb6.block _ (by omega)).trans X4.out)
  clear x_0 x_1 x_2 x_3 x_4 x_5 x_6 x_7 x_8 x_9 x_10
  obtain ⟨x_0, x_1, x_2, x_3, x_4, x_5, x_6, x_7, x_8, x_9, x_10⟩ := HX.out w106 hB6
  clear X4c0 X4c1 X4c2 X4c3 X4c4 X4c5 X4c6 X4c7 X4c8 X4c9 X4c10
  have X4c0 := cell_of_row _ _ 0 _ _ (0, 0) X4.out
  have X4c1 := cell_of_row _ _ 1 _ _ (0, 0) X4.out
  have X4c2 := cell_of_row _ _ 2 _ _ (0, 0) X4.out
  have X4c3 := cell_of_row _ _ 3 _ _ (0, 0) X4.out
  have X4c4 := cell_of_row _ _ 4 _ _ (0, 0) X4.out
  have X4c5 := cell_of_row _ _ 5 _ _ (0, 0) X4.out
  have X4c6 := cell_of_row _ _ 6 _ _ (0, 0) X4.out
  have X4c7 := cell_of_row _ _ 7 _ _ (0, 0) X4.out
  have X4c8 := cell_of_row _ _ 8 _ _ (0, 0) X4.out
  have X4c9 := cell_of_row _ _ 9 _ _ (0, 0) X4.out
  have X4c10 := cell_of_row _ _ 10 _ _ (0, 0) X4.out
  simp only [List.getElem?_toArray, List.getElem?_cons_zero, List.getElem?_cons_succ] at X4c0 X4c1 X4c2 X4c3 X4c4 X4c5 X4c6 X4c7 X4c8 X4c9 X4c10
  generalize askL (id0, lm0, ps0, mo0, su0, hs0, (sp0, hd0, cs0, ss0), sl0) a1 = res
  go_wp2
  have hD : Below w106.heap.size w106 w106.drew := (Below.refl _ _).drew
  have zD : w106.drew.heap.size = w106.heap.size := rfl
  go_region_held3 (fun V => V.cell? ⟨w104.heap.size, 0, none⟩ = some (.string id0) ∧ V.cell? ⟨w104.heap.size, 1, none⟩ = some (.int .i64 lm0) ∧ V.cell? ⟨w104.heap.size, 2, none⟩ = some (.int .i64 ps0) ∧ V.cell? ⟨w104.heap.size, 3, none⟩ = some (.int .i64 mo0) ∧ V.cell? ⟨w104.heap.size, 4, none⟩ = some (.int .i64 su0) ∧ V.cell? ⟨w104.heap.size, 5, none⟩ = some (.slice AH_4 hs0.length cH_4) ∧ V.cell? ⟨w104.heap.size, 6, none⟩ = some (.int .i64 sp0) ∧ V.cell? ⟨w104.heap.size, 7, none⟩ = some (.int .i64 hd0) ∧ V.cell? ⟨w104.heap.size, 8, none⟩ = some (.slice AC_4 cs0.length cC_4) ∧ V.cell? ⟨w104.heap.size, 9, none⟩ = some (.slice AS_4 ss0.length cS_4) ∧ V.cell? ⟨w104.heap.size, 10, none⟩ = some (.slice AL_4 sl0.length cL_4) ∧ V.cell? ⟨w.heap.size, 0, none⟩ = some (.string id0) ∧ V.cell? ⟨w.heap.size, 1, none⟩ = some (.int .i64 lm0) ∧ V.cell? ⟨w.heap.size, 2, none⟩ = some (.int .i64 ps0) ∧ V.cell? ⟨w.heap.size, 3, none⟩ = some (.int .i64 mo0) ∧ V.cell? ⟨w.heap.size, 4, none⟩ = some (.int .i64 su0) ∧ V.cell? ⟨w.heap.size, 5, none⟩ = some (.slice AH0 hs0.length cH0) ∧ V.cell? ⟨w.heap.size, 6, none⟩ = some (.int .i64 sp0) ∧ V.cell? ⟨w.heap.size, 7, none⟩ = some (.int .i64 hd0) ∧ V.cell? ⟨w.heap.size, 8, none⟩ = some (.slice AC0 cs0.length cC0) ∧ V.cell? ⟨w.heap.size, 9, none⟩ = some (.slice AS0 ss0.length cS0) ∧ V.cell? ⟨w.heap.size, 10, none⟩ = some (.slice AL0 sl0.length cL0)) (go_keep) (first | (go_at_call 38; refine (toAcct_any w.heap.size (.slice AH0 hs0.length cH0) (.slice AC0 cs0.length cC0) (.slice AS0 ss0.length cS0) (.slice AL0 sl0.length cL0) (id0, lm0, ps0, mo0, su0, hs0, (sp0, hd0, cs0, ss0), sl0) w106.drew HS0.out (Rep.below (R := AcctR) HX0.out hD (by omega)) (show w.heap.size ≤ w106.heap.size by omega)).mono ?_; rintro e w107 ⟨uhq, ucq, usq, ulq, rfl, huq, hbq⟩; obtain ⟨xh, xc, xs, xl, hcs, q1, q2, q3, q4⟩ := acct_rd huq.rd; simp only [aCells, List.cons.injEq, and_true, true_and] at hcs; obtain ⟨rfl, rfl, rfl, rfl⟩ := hcs; simp only [aH, aS] at q1 q2 q3 q4; obtain ⟨AHq, cHq, rfl, -⟩ := Rep.slice_form q1; obtain ⟨ACq, cCq, rfl, -⟩ := q2.form; obtain ⟨ASq, cSq, rfl, -⟩ := q3.form; obtain ⟨ALq, cLq, rfl, -⟩ := Rep.slice_form q4; clear q1 q2 q3 q4; have zq := hbq.size; have qa0 := (hbq.cell (p := ⟨w104.heap.size, 0, none⟩) (show w104.heap.size < _ by omega)).trans X4c0; have qa1 := (hbq.cell (p := ⟨w104.heap.size, 1, none⟩) (show w104.heap.size < _ by omega)).trans X4c1; have qa2 := (hbq.cell (p := ⟨w104.heap.size, 2, none⟩) (show w104.heap.size < _ by omega)).trans X4c2; have qa3 := (hbq.cell (p := ⟨w104.heap.size, 3, none⟩) (show w104.heap.size < _ by omega)).trans X4c3; have qa4 := (hbq.cell (p := ⟨w104.heap.size, 4, none⟩) (show w104.heap.size < _ by omega)).trans X4c4; have qa5 := (hbq.cell (p := ⟨w104.heap.size, 5, none⟩) (show w104.heap.size < _ by omega)).trans X4c5; have qa6 := (hbq.cell (p := ⟨w104.heap.size, 6, none⟩) (show w104.heap.size < _ by omega)).trans X4c6; have qa7 := (hbq.cell (p := ⟨w104.heap.size, 7, none⟩) (show w104.heap.size < _ by omega)).trans X4c7; have qa8 := (hbq.cell (p := ⟨w104.heap.size, 8, none⟩) (show w104.heap.size < _ by omega)).trans X4c8; have qa9 := (hbq.cell (p := ⟨w104.heap.size, 9, none⟩) (show w104.heap.size < _ by omega)).trans X4c9; have qa10 := (hbq.cell (p := ⟨w104.heap.size, 10, none⟩) (show w104.heap.size < _ by omega)).trans X4c10; have qa11 := (hbq.cell (p := ⟨w.heap.size, 0, none⟩) (show w.heap.size < _ by omega)).trans x_0; have qa12 := (hbq.cell (p := ⟨w.heap.size, 1, none⟩) (show w.heap.size < _ by omega)).trans x_1; have qa13 := (hbq.cell (p := ⟨w.heap.size, 2, none⟩) (show w.heap.size < _ by omega)).trans x_2; have qa14 := (hbq.cell (p := ⟨w.heap.size, 3, none⟩) (show w.heap.size < _ by omega)).trans x_3; have qa15 := (hbq.cell (p := ⟨w.heap.size, 4, none⟩) (show w.heap.size < _ by omega)).trans x_4; have qa16 := (hbq.cell (p := ⟨w.heap.size, 5, none⟩) (show w.heap.size < _ by omega)).trans x_5; have qa17 := (hbq.cell (p := ⟨w.heap.size, 6, none⟩) (show w.heap.size < _ by omega)).trans x_6; have qa18 := (hbq.cell (p := ⟨w.heap.size, 7, none⟩) (show w.heap.size < _ by omega)).trans x_7; have qa19 := (hbq.cell (p := ⟨w.heap.size, 8, none⟩) (show w.heap.size < _ by omega)).trans x_8; have qa20 := (hbq.cell (p := ⟨w.heap.size, 9, none⟩) (show w.heap.size < _ by omega)).trans x_9; have qa21 := (hbq.cell (p := ⟨w.heap.size, 10, none⟩) (show w.heap.size < _ by omega)).trans x_10) | (go_at_call 39; refine (eqAcct_any _ _ (.slice AH_4 hs0.length cH_4) (.slice AC_4 cs0.length cC_4) (.slice AS_4 ss0.length cS_4) (.slice AL_4 sl0.length cL_4) (.slice AHq hs0.length cHq) (.slice ACq cs0.length cCq) (.slice ASq ss0.length cSq) (.slice ALq sl0.length cLq) (id0, lm0, ps0, mo0, su0, hs0, (sp0, hd0, cs0, ss0), sl0) w107 HS0.out (Rep.below (R := AcctR) (Rep.below (R := AcctR) H4.out.rd hD (by omega)) hbq (by omega)) huq.rd (by omega) (by omega)).mono ?_; rintro e w108 ⟨rfl, hbr⟩; have qb0 := (hbr.cell (p := ⟨w104.heap.size, 0, none⟩) (show w104.heap.size < _ by omega)).trans qa0; have qb1 := (hbr.cell (p := ⟨w104.heap.size, 1, none⟩) (show w104.heap.size < _ by omega)).trans qa1; have qb2 := (hbr.cell (p := ⟨w104.heap.size, 2, none⟩) (show w104.heap.size < _ by omega)).trans qa2; have qb3 := (hbr.cell (p := ⟨w104.heap.size, 3, none⟩) (show w104.heap.size < _ by omega)).trans qa3; have qb4 := (hbr.cell (p := ⟨w104.heap.size, 4, none⟩) (show w104.heap.size < _ by omega)).trans qa4; have qb5 := (hbr.cell (p := ⟨w104.heap.size, 5, none⟩) (show w104.heap.size < _ by omega)).trans qa5; have qb6 := (hbr.cell (p := ⟨w104.heap.size, 6, none⟩) (show w104.heap.size < _ by omega)).trans qa6; have qb7 := (hbr.cell (p := ⟨w104.heap.size, 7, none⟩) (show w104.heap.size < _ by omega)).trans qa7; have qb8 := (hbr.cell (p := ⟨w104.heap.size, 8, none⟩) (show w104.heap.size < _ by omega)).trans qa8; have qb9 := (hbr.cell (p := ⟨w104.heap.size, 9, none⟩) (show w104.heap.size < _ by omega)).trans qa9; have qb10 := (hbr.cell (p := ⟨w104.heap.size, 10, none⟩) (show w104.heap.size < _ by omega)).trans qa10; have qb11 := (hbr.cell (p := ⟨w.heap.size, 0, none⟩) (show w.heap.size < _ by omega)).trans qa11; have qb12 := (hbr.cell (p := ⟨w.heap.size, 1, none⟩) (show w.heap.size < _ by omega)).trans qa12; have qb13 := (hbr.cell (p := ⟨w.heap.size, 2, none⟩) (show w.heap.size < _ by omega)).trans qa13; have qb14 := (hbr.cell (p := ⟨w.heap.size, 3, none⟩) (show w.heap.size < _ by omega)).trans qa14; have qb15 := (hbr.cell (p := ⟨w.heap.size, 4, none⟩) (show w.heap.size < _ by omega)).trans qa15; have qb16 := (hbr.cell (p := ⟨w.heap.size, 5, none⟩) (show w.heap.size < _ by omega)).trans qa16; have qb17 := (hbr.cell (p := ⟨w.heap.size, 6, none⟩) (show w.heap.size < _ by omega)).trans qa17; have qb18 := (hbr.cell (p := ⟨w.heap.size, 7, none⟩) (show w.heap.size < _ by omega)).trans qa18; have qb19 := (hbr.cell (p := ⟨w.heap.size, 8, none⟩) (show w.heap.size < _ by omega)).trans qa19; have qb20 := (hbr.cell (p := ⟨w.heap.size, 9, none⟩) (show w.heap.size < _ by omega)).trans qa20; have qb21 := (hbr.cell (p := ⟨w.heap.size, 10, none⟩) (show w.heap.size < _ by omega)).trans qa21) | fail)
  have hb8 : Below w106.heap.size w106 w108 := (hD.trans (hbq.mono (show w106.heap.size ≤ _ by omega))).trans (hbr.mono (show w106.heap.size ≤ _ by omega))
  have hB8 := hB6.trans (hb8.mono (show w.heap.size + 1 ≤ _ by omega))
  have zz108 : w106.heap.size ≤ w108.heap.size := hb8.size
  clear hbq hbr huq qa0 qb0 qa1 qb1 qa2 qb2 qa3 qb3 qa4 qb4 qa5 qb5 qa6 qb6 qa7 qb7 qa8 qb8 qa9 qb9 qa10 qb10 qa11 qb11 qa12 qb12 qa13 qb13 qa14 qb14 qa15 qb15 qa16 qb16 qa17 qb17 qa18 qb18 qa19 qb19 qa20 qb20 qa21 qb21 hD zD
  replace HX0 := Lib.hid (Rep.below (R := AcctR) HX0.out hb8 (by omega))
  replace H4 := Lib.hid (H4.out.below hb8 (by omega))
  replace X4 := Lib.hid ((hb8.block _ (by omega)).trans X4.out)
  clear x_0 x_1 x_2 x_3 x_4 x_5 x_6 x_7 x_8 x_9 x_10
  obtain ⟨x_0, x_1, x_2, x_3, x_4, x_5, x_6, x_7, x_8, x_9, x_10⟩ := HX.out w108 hB8
  clear X4c0 X4c1 X4c2 X4c3 X4c4 X4c5 X4c6 X4c7 X4c8 X4c9 X4c10
  have X4c0 := cell_of_row _ _ 0 _ _ (0, 0) X4.out
  have X4c1 := cell_of_row _ _ 1 _ _ (0, 0) X4.out
  have X4c2 := cell_of_row _ _ 2 _ _ (0, 0) X4.out
  have X4c3 := cell_of_row _ _ 3 _ _ (0, 0) X4.out
  have X4c4 := cell_of_row _ _ 4 _ _ (0, 0) X4.out
  have X4c5 := cell_of_row _ _ 5 _ _ (0, 0) X4.out
  have X4c6 := cell_of_row _ _ 6 _ _ (0, 0) X4.out
  have X4c7 := cell_of_row _ _ 7 _ _ (0, 0) X4.out
  have X4c8 := cell_of_row _ _ 8 _ _ (0, 0) X4.out
  have X4c9 := cell_of_row _ _ 9 _ _ (0, 0) X4.out
  have X4c10 := cell_of_row _ _ 10 _ _ (0, 0) X4.out
  simp only [List.getElem?_toArray, List.getElem?_cons_zero, List.getElem?_cons_succ] at X4c0 X4c1 X4c2 X4c3 X4c4 X4c5 X4c6 X4c7 X4c8 X4c9 X4c10
  go_wp2
  go_ret
  exact ⟨rfl, (HB0.out.trans (hB8.mono (by first | omega | (simp <;> omega))))⟩
end Go.Proofs.YtnmijppppcgobaaGreatDoor.fnExactAsk
