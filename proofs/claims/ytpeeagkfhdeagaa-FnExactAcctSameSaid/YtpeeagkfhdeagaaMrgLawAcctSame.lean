/- FnExactAcctSame: for every argument the law answers true: the program's function returns what the reference returns; the listed package variables hold what the program's text lays (tied). -/
import Derived.Test.YtpeeagkfhdeagaaPost
import Derived.Test.YtpeeagkfhdeagaaOpenAcct
import Derived.Test.YtpeeagkfhdeagaaMrg1
import Derived.Deep.RegionHeld3
namespace Go.Proofs.Ytpeeagkfhdeagaa.fnExactAcctSame
open Go.ChangeShapes Go.WideShapes Go.ChangeAt Go.RowKit
open Go.WideMaps Go.WideElems
open Go.ChangeMaps (open_string shut_string)
set_option linter.unusedVariables false

set_option maxRecDepth 100000 in
theorem own : ownKnob Try.prog.godebug = none := by kernel_rfl

set_option maxRecDepth 100000 in
set_option maxHeartbeats 8000000 in
theorem walk (w : World)  (a0 : AcctD) (vh0 vc0 vs0 vl0 : Value) (a1 : AcctD) (vh1 vc1 vs1 vl1 : Value) (w0 : AcctR.rd w.heap.size w (aCells a0 vh0 vc0 vs0 vl0) a0) (z0 : acctBig a0) (w1 : AcctR.rd w.heap.size w (aCells a1 vh1 vc1 vs1 vl1) a1) (z1 : acctBig a1) :
    Calls Try.prog 4 #[.agg #[.string (aId a0), .int .i64 (aLim a0), .int .i64 (aPos a0), .int .i64 (aMost a0), .int .i64 (aSum a0), vh0, .int .i64 (aR a0).1, .int .i64 (aR a0).2.1, vc0, vs0, vl0], .agg #[.string (aId a1), .int .i64 (aLim a1), .int .i64 (aPos a1), .int .i64 (aMost a1), .int .i64 (aSum a1), vh1, .int .i64 (aR a1).1, .int .i64 (aR a1).2.1, vc1, vs1, vl1]] w fun e w' => e = .returned (.bool true) ∧ Below w.heap.size w w' := by
  obtain ⟨id0, lm0, ps0, mo0, su0, hs0, ⟨sp0, hd0, cs0, ss0⟩, sl0⟩ := a0
  obtain ⟨xh, xc, xs, xl, hcs, q1, q2, q3, q4⟩ := acct_rd w0
  simp only [aCells, List.cons.injEq, and_true, true_and] at hcs
  obtain ⟨rfl, rfl, rfl, rfl⟩ := hcs
  simp only [aH, aS] at q1 q2 q3 q4
  obtain ⟨AH0, cH0, rfl, -⟩ := Rep.slice_form q1
  obtain ⟨AC0, cC0, rfl, -⟩ := q2.form
  obtain ⟨AS0, cS0, rfl, -⟩ := q3.form
  obtain ⟨AL0, cL0, rfl, -⟩ := Rep.slice_form q4
  have HX0 := Lib.hid w0
  have HY0 := Lib.hid z0
  clear w0 z0 q1 q2 q3 q4
  skip
  obtain ⟨id1, lm1, ps1, mo1, su1, hs1, ⟨sp1, hd1, cs1, ss1⟩, sl1⟩ := a1
  obtain ⟨xh, xc, xs, xl, hcs, q1, q2, q3, q4⟩ := acct_rd w1
  simp only [aCells, List.cons.injEq, and_true, true_and] at hcs
  obtain ⟨rfl, rfl, rfl, rfl⟩ := hcs
  simp only [aH, aS] at q1 q2 q3 q4
  obtain ⟨AH1, cH1, rfl, -⟩ := Rep.slice_form q1
  obtain ⟨AC1, cC1, rfl, -⟩ := q2.form
  obtain ⟨AS1, cS1, rfl, -⟩ := q3.form
  obtain ⟨AL1, cL1, rfl, -⟩ := Rep.slice_form q4
  have HX1 := Lib.hid w1
  have HY1 := Lib.hid z1
  clear w1 z1 q1 q2 q3 q4
  simp only [aId, aLim, aPos, aMost, aSum]
  have HB0 : Hid (Below w.heap.size w ((w.alloc (.cells #[.string id0, .int .i64 lm0, .int .i64 ps0, .int .i64 mo0, .int .i64 su0, .slice AH0 hs0.length cH0, .int .i64 sp0, .int .i64 hd0, .slice AC0 cs0.length cC0, .slice AS0 ss0.length cS0, .slice AL0 sl0.length cL0] 29)).alloc (.cells #[.string id1, .int .i64 lm1, .int .i64 ps1, .int .i64 mo1, .int .i64 su1, .slice AH1 hs1.length cH1, .int .i64 sp1, .int .i64 hd1, .slice AC1 cs1.length cC1, .slice AS1 ss1.length cS1, .slice AL1 sl1.length cL1] 29))) := Lib.hid (((Below.refl w.heap.size w).alloc (Nat.le_refl _) (.cells #[.string id0, .int .i64 lm0, .int .i64 ps0, .int .i64 mo0, .int .i64 su0, .slice AH0 hs0.length cH0, .int .i64 sp0, .int .i64 hd0, .slice AC0 cs0.length cC0, .slice AS0 ss0.length cS0, .slice AL0 sl0.length cL0] 29)).alloc (by simp <;> omega) (.cells #[.string id1, .int .i64 lm1, .int .i64 ps1, .int .i64 mo1, .int .i64 su1, .slice AH1 hs1.length cH1, .int .i64 sp1, .int .i64 hd1, .slice AC1 cs1.length cC1, .slice AS1 ss1.length cS1, .slice AL1 sl1.length cL1] 29))
  have HX : Hid (∀ wr, Below (w.heap.size + 2) ((w.alloc (.cells #[.string id0, .int .i64 lm0, .int .i64 ps0, .int .i64 mo0, .int .i64 su0, .slice AH0 hs0.length cH0, .int .i64 sp0, .int .i64 hd0, .slice AC0 cs0.length cC0, .slice AS0 ss0.length cS0, .slice AL0 sl0.length cL0] 29)).alloc (.cells #[.string id1, .int .i64 lm1, .int .i64 ps1, .int .i64 mo1, .int .i64 su1, .slice AH1 hs1.length cH1, .int .i64 sp1, .int .i64 hd1, .slice AC1 cs1.length cC1, .slice AS1 ss1.length cS1, .slice AL1 sl1.length cL1] 29)) wr → wr.cell? ⟨w.heap.size, 0, none⟩ = some (.string id0) ∧ wr.cell? ⟨w.heap.size, 1, none⟩ = some (.int .i64 lm0) ∧ wr.cell? ⟨w.heap.size, 2, none⟩ = some (.int .i64 ps0) ∧ wr.cell? ⟨w.heap.size, 3, none⟩ = some (.int .i64 mo0) ∧ wr.cell? ⟨w.heap.size, 4, none⟩ = some (.int .i64 su0) ∧ wr.cell? ⟨w.heap.size, 5, none⟩ = some (.slice AH0 hs0.length cH0) ∧ wr.cell? ⟨w.heap.size, 6, none⟩ = some (.int .i64 sp0) ∧ wr.cell? ⟨w.heap.size, 7, none⟩ = some (.int .i64 hd0) ∧ wr.cell? ⟨w.heap.size, 8, none⟩ = some (.slice AC0 cs0.length cC0) ∧ wr.cell? ⟨w.heap.size, 9, none⟩ = some (.slice AS0 ss0.length cS0) ∧ wr.cell? ⟨w.heap.size, 10, none⟩ = some (.slice AL0 sl0.length cL0) ∧ wr.cell? ⟨w.heap.size + 1, 0, none⟩ = some (.string id1) ∧ wr.cell? ⟨w.heap.size + 1, 1, none⟩ = some (.int .i64 lm1) ∧ wr.cell? ⟨w.heap.size + 1, 2, none⟩ = some (.int .i64 ps1) ∧ wr.cell? ⟨w.heap.size + 1, 3, none⟩ = some (.int .i64 mo1) ∧ wr.cell? ⟨w.heap.size + 1, 4, none⟩ = some (.int .i64 su1) ∧ wr.cell? ⟨w.heap.size + 1, 5, none⟩ = some (.slice AH1 hs1.length cH1) ∧ wr.cell? ⟨w.heap.size + 1, 6, none⟩ = some (.int .i64 sp1) ∧ wr.cell? ⟨w.heap.size + 1, 7, none⟩ = some (.int .i64 hd1) ∧ wr.cell? ⟨w.heap.size + 1, 8, none⟩ = some (.slice AC1 cs1.length cC1) ∧ wr.cell? ⟨w.heap.size + 1, 9, none⟩ = some (.slice AS1 ss1.length cS1) ∧ wr.cell? ⟨w.heap.size + 1, 10, none⟩ = some (.slice AL1 sl1.length cL1)) := Lib.hid fun wr hw => ⟨(hw.cell (p := ⟨w.heap.size, 0, none⟩) (show w.heap.size < _ by omega)).trans (by simp), (hw.cell (p := ⟨w.heap.size, 1, none⟩) (show w.heap.size < _ by omega)).trans (by simp), (hw.cell (p := ⟨w.heap.size, 2, none⟩) (show w.heap.size < _ by omega)).trans (by simp), (hw.cell (p := ⟨w.heap.size, 3, none⟩) (show w.heap.size < _ by omega)).trans (by simp), (hw.cell (p := ⟨w.heap.size, 4, none⟩) (show w.heap.size < _ by omega)).trans (by simp), (hw.cell (p := ⟨w.heap.size, 5, none⟩) (show w.heap.size < _ by omega)).trans (by simp), (hw.cell (p := ⟨w.heap.size, 6, none⟩) (show w.heap.size < _ by omega)).trans (by simp), (hw.cell (p := ⟨w.heap.size, 7, none⟩) (show w.heap.size < _ by omega)).trans (by simp), (hw.cell (p := ⟨w.heap.size, 8, none⟩) (show w.heap.size < _ by omega)).trans (by simp), (hw.cell (p := ⟨w.heap.size, 9, none⟩) (show w.heap.size < _ by omega)).trans (by simp), (hw.cell (p := ⟨w.heap.size, 10, none⟩) (show w.heap.size < _ by omega)).trans (by simp), (hw.cell (p := ⟨w.heap.size + 1, 0, none⟩) (show w.heap.size + 1 < _ by omega)).trans (by simp), (hw.cell (p := ⟨w.heap.size + 1, 1, none⟩) (show w.heap.size + 1 < _ by omega)).trans (by simp), (hw.cell (p := ⟨w.heap.size + 1, 2, none⟩) (show w.heap.size + 1 < _ by omega)).trans (by simp), (hw.cell (p := ⟨w.heap.size + 1, 3, none⟩) (show w.heap.size + 1 < _ by omega)).trans (by simp), (hw.cell (p := ⟨w.heap.size + 1, 4, none⟩) (show w.heap.size + 1 < _ by omega)).trans (by simp), (hw.cell (p := ⟨w.heap.size + 1, 5, none⟩) (show w.heap.size + 1 < _ by omega)).trans (by simp), (hw.cell (p := ⟨w.heap.size + 1, 6, none⟩) (show w.heap.size + 1 < _ by omega)).trans (by simp), (hw.cell (p := ⟨w.heap.size + 1, 7, none⟩) (show w.heap.size + 1 < _ by omega)).trans (by simp), (hw.cell (p := ⟨w.heap.size + 1, 8, none⟩) (show w.heap.size + 1 < _ by omega)).trans (by simp), (hw.cell (p := ⟨w.heap.size + 1, 9, none⟩) (show w.heap.size + 1 < _ by omega)).trans (by simp), (hw.cell (p := ⟨w.heap.size + 1, 10, none⟩) (show w.heap.size + 1 < _ by omega)).trans (by simp)⟩
  go_enter Try.func4, Try.ntmps4
  go_wp2_with fail
  refine (szAcct_any w.heap.size (.slice AH0 hs0.length cH0) (.slice AC0 cs0.length cC0) (.slice AS0 ss0.length cS0) (.slice AL0 sl0.length cL0) (id0, lm0, ps0, mo0, su0, hs0, (sp0, hd0, cs0, ss0), sl0) 1048576 ((w.alloc (.cells #[.string id0, .int .i64 lm0, .int .i64 ps0, .int .i64 mo0, .int .i64 su0, .slice AH0 hs0.length cH0, .int .i64 sp0, .int .i64 hd0, .slice AC0 cs0.length cC0, .slice AS0 ss0.length cS0, .slice AL0 sl0.length cL0] 29)).alloc (.cells #[.string id1, .int .i64 lm1, .int .i64 ps1, .int .i64 mo1, .int .i64 su1, .slice AH1 hs1.length cH1, .int .i64 sp1, .int .i64 hd1, .slice AC1 cs1.length cC1, .slice AS1 ss1.length cS1, .slice AL1 sl1.length cL1] 29)) HY0.out (Rep.below (R := AcctR) HX0.out HB0.out (Nat.le_refl _)) (by first | omega | (simp <;> omega)) (by omega) (by omega)).mono ?_
  rintro e w101 ⟨r0, rfl, hr0, hb1⟩
  have zz101 : w.heap.size + 2 ≤ w101.heap.size := by have := hb1.size; simp at this; omega
  have hB1 : Below (w.heap.size + 2) ((w.alloc (.cells #[.string id0, .int .i64 lm0, .int .i64 ps0, .int .i64 mo0, .int .i64 su0, .slice AH0 hs0.length cH0, .int .i64 sp0, .int .i64 hd0, .slice AC0 cs0.length cC0, .slice AS0 ss0.length cS0, .slice AL0 sl0.length cL0] 29)).alloc (.cells #[.string id1, .int .i64 lm1, .int .i64 ps1, .int .i64 mo1, .int .i64 su1, .slice AH1 hs1.length cH1, .int .i64 sp1, .int .i64 hd1, .slice AC1 cs1.length cC1, .slice AS1 ss1.length cS1, .slice AL1 sl1.length cL1] 29)) w101 := hb1.mono (by simp <;> omega)
  have hw1 : Below w.heap.size w w101 := HB0.out.trans (hb1.mono (by simp <;> omega))
  replace HX0 := Lib.hid (Rep.below (R := AcctR) HX0.out hw1 (Nat.le_refl _))
  replace HX1 := Lib.hid (Rep.below (R := AcctR) HX1.out hw1 (Nat.le_refl _))
  obtain ⟨x_0, x_1, x_2, x_3, x_4, x_5, x_6, x_7, x_8, x_9, x_10, x_11, x_12, x_13, x_14, x_15, x_16, x_17, x_18, x_19, x_20, x_21⟩ := HX.out w101 hB1
  rcases hr0 with rfl | ⟨hr0, hp0⟩
  · go_wp2
    go_ret
    exact ⟨rfl, (HB0.out.trans (hB1.mono (by first | omega | (simp <;> omega))))⟩
  have hxz0 : acctSz (id0, lm0, ps0, mo0, su0, hs0, (sp0, hd0, cs0, ss0), sl0) ≤ 1048576 := by omega
  have HS0 := Lib.hid (acct_small hxz0)
  have hq0 : r0 ≤ 1048576 := by omega
  have HR0 := Lib.hid hr0
  have HXZ0 := Lib.hid hxz0
  clear hr0 hxz0
  go_wp2_with fail
  refine (szAcct_any w.heap.size (.slice AH1 hs1.length cH1) (.slice AC1 cs1.length cC1) (.slice AS1 ss1.length cS1) (.slice AL1 sl1.length cL1) (id1, lm1, ps1, mo1, su1, hs1, (sp1, hd1, cs1, ss1), sl1) r0 w101 HY1.out HX1.out (by first | omega | (simp <;> omega)) (by omega) (by omega)).mono ?_
  rintro e w102 ⟨r1, rfl, hr1, hb2⟩
  have zz102 : w101.heap.size ≤ w102.heap.size := hb2.size
  have hB2 := hB1.trans (hb2.mono (show w.heap.size + 2 ≤ _ by omega))
  replace HX0 := Lib.hid (Rep.below (R := AcctR) HX0.out hb2 (by omega))
  replace HX1 := Lib.hid (Rep.below (R := AcctR) HX1.out hb2 (by omega))
  clear x_0 x_1 x_2 x_3 x_4 x_5 x_6 x_7 x_8 x_9 x_10 x_11 x_12 x_13 x_14 x_15 x_16 x_17 x_18 x_19 x_20 x_21
  obtain ⟨x_0, x_1, x_2, x_3, x_4, x_5, x_6, x_7, x_8, x_9, x_10, x_11, x_12, x_13, x_14, x_15, x_16, x_17, x_18, x_19, x_20, x_21⟩ := HX.out w102 hB2
  rcases hr1 with rfl | ⟨hr1, hp1⟩
  · go_wp2
    go_ret
    exact ⟨rfl, (HB0.out.trans (hB2.mono (by first | omega | (simp <;> omega))))⟩
  have hxz1 : acctSz (id1, lm1, ps1, mo1, su1, hs1, (sp1, hd1, cs1, ss1), sl1) ≤ 1048576 := by omega
  have HS1 := Lib.hid (acct_small hxz1)
  have hq1 : r1 ≤ 1048576 := by omega
  have HR1 := Lib.hid hr1
  have HXZ1 := Lib.hid hxz1
  clear hr1 hxz1
  go_wp2
  have hD : Below w102.heap.size w102 w102.drew := (Below.refl _ _).drew
  have zD : w102.drew.heap.size = w102.heap.size := rfl
  have yD0 : w.heap.size < w102.heap.size := by omega
  have yD1 : w.heap.size + 1 < w102.heap.size := by omega
  have HT0 := Lib.hid (fun W' (hW : Below w102.heap.size w102 W') => toAcct_any w.heap.size (.slice AH0 hs0.length cH0) (.slice AC0 cs0.length cC0) (.slice AS0 ss0.length cS0) (.slice AL0 sl0.length cL0) (id0, lm0, ps0, mo0, su0, hs0, (sp0, hd0, cs0, ss0), sl0) W' HS0.out (Rep.below (R := AcctR) HX0.out hW (by omega)) (Nat.le_trans (by omega) hW.size))
  have HT1 := Lib.hid (fun W' (hW : Below w102.heap.size w102 W') => toAcct_any w.heap.size (.slice AH1 hs1.length cH1) (.slice AC1 cs1.length cC1) (.slice AS1 ss1.length cS1) (.slice AL1 sl1.length cL1) (id1, lm1, ps1, mo1, su1, hs1, (sp1, hd1, cs1, ss1), sl1) W' HS1.out (Rep.below (R := AcctR) HX1.out hW (by omega)) (Nat.le_trans (by omega) hW.size))
  simp only [aId, aLim, aPos, aMost, aSum] at HT0 HT1
  go_region_held3 (fun V => V.cell? ⟨w.heap.size, 0, none⟩ = some (.string id0) ∧ V.cell? ⟨w.heap.size, 1, none⟩ = some (.int .i64 lm0) ∧ V.cell? ⟨w.heap.size, 2, none⟩ = some (.int .i64 ps0) ∧ V.cell? ⟨w.heap.size, 3, none⟩ = some (.int .i64 mo0) ∧ V.cell? ⟨w.heap.size, 4, none⟩ = some (.int .i64 su0) ∧ V.cell? ⟨w.heap.size, 5, none⟩ = some (.slice AH0 hs0.length cH0) ∧ V.cell? ⟨w.heap.size, 6, none⟩ = some (.int .i64 sp0) ∧ V.cell? ⟨w.heap.size, 7, none⟩ = some (.int .i64 hd0) ∧ V.cell? ⟨w.heap.size, 8, none⟩ = some (.slice AC0 cs0.length cC0) ∧ V.cell? ⟨w.heap.size, 9, none⟩ = some (.slice AS0 ss0.length cS0) ∧ V.cell? ⟨w.heap.size, 10, none⟩ = some (.slice AL0 sl0.length cL0) ∧ V.cell? ⟨w.heap.size + 1, 0, none⟩ = some (.string id1) ∧ V.cell? ⟨w.heap.size + 1, 1, none⟩ = some (.int .i64 lm1) ∧ V.cell? ⟨w.heap.size + 1, 2, none⟩ = some (.int .i64 ps1) ∧ V.cell? ⟨w.heap.size + 1, 3, none⟩ = some (.int .i64 mo1) ∧ V.cell? ⟨w.heap.size + 1, 4, none⟩ = some (.int .i64 su1) ∧ V.cell? ⟨w.heap.size + 1, 5, none⟩ = some (.slice AH1 hs1.length cH1) ∧ V.cell? ⟨w.heap.size + 1, 6, none⟩ = some (.int .i64 sp1) ∧ V.cell? ⟨w.heap.size + 1, 7, none⟩ = some (.int .i64 hd1) ∧ V.cell? ⟨w.heap.size + 1, 8, none⟩ = some (.slice AC1 cs1.length cC1) ∧ V.cell? ⟨w.heap.size + 1, 9, none⟩ = some (.slice AS1 ss1.length cS1) ∧ V.cell? ⟨w.heap.size + 1, 10, none⟩ = some (.slice AL1 sl1.length cL1)) (go_keep) (first | (go_at_call 9; (with_reducible refine (HT0.out _ hD).mono ?_); rintro e w103 ⟨uhA, ucA, usA, ulA, rfl, huA, hbA⟩; obtain ⟨xh, xc, xs, xl, hcs, q1, q2, q3, q4⟩ := acct_rd huA.rd; simp only [aCells, List.cons.injEq, and_true, true_and] at hcs; obtain ⟨rfl, rfl, rfl, rfl⟩ := hcs; simp only [aH, aS] at q1 q2 q3 q4; obtain ⟨AHA, cHA, rfl, -⟩ := Rep.slice_form q1; obtain ⟨ACA, cCA, rfl, -⟩ := q2.form; obtain ⟨ASA, cSA, rfl, -⟩ := q3.form; obtain ⟨ALA, cLA, rfl, -⟩ := Rep.slice_form q4; clear q1 q2 q3 q4; have zA := hbA.size; have qa0 := (hbA.cell (p := ⟨w.heap.size, 0, none⟩) (show w.heap.size < _ by omega)).trans x_0; have qa1 := (hbA.cell (p := ⟨w.heap.size, 1, none⟩) (show w.heap.size < _ by omega)).trans x_1; have qa2 := (hbA.cell (p := ⟨w.heap.size, 2, none⟩) (show w.heap.size < _ by omega)).trans x_2; have qa3 := (hbA.cell (p := ⟨w.heap.size, 3, none⟩) (show w.heap.size < _ by omega)).trans x_3; have qa4 := (hbA.cell (p := ⟨w.heap.size, 4, none⟩) (show w.heap.size < _ by omega)).trans x_4; have qa5 := (hbA.cell (p := ⟨w.heap.size, 5, none⟩) (show w.heap.size < _ by omega)).trans x_5; have qa6 := (hbA.cell (p := ⟨w.heap.size, 6, none⟩) (show w.heap.size < _ by omega)).trans x_6; have qa7 := (hbA.cell (p := ⟨w.heap.size, 7, none⟩) (show w.heap.size < _ by omega)).trans x_7; have qa8 := (hbA.cell (p := ⟨w.heap.size, 8, none⟩) (show w.heap.size < _ by omega)).trans x_8; have qa9 := (hbA.cell (p := ⟨w.heap.size, 9, none⟩) (show w.heap.size < _ by omega)).trans x_9; have qa10 := (hbA.cell (p := ⟨w.heap.size, 10, none⟩) (show w.heap.size < _ by omega)).trans x_10; have qa11 := (hbA.cell (p := ⟨w.heap.size + 1, 0, none⟩) (show w.heap.size + 1 < _ by omega)).trans x_11; have qa12 := (hbA.cell (p := ⟨w.heap.size + 1, 1, none⟩) (show w.heap.size + 1 < _ by omega)).trans x_12; have qa13 := (hbA.cell (p := ⟨w.heap.size + 1, 2, none⟩) (show w.heap.size + 1 < _ by omega)).trans x_13; have qa14 := (hbA.cell (p := ⟨w.heap.size + 1, 3, none⟩) (show w.heap.size + 1 < _ by omega)).trans x_14; have qa15 := (hbA.cell (p := ⟨w.heap.size + 1, 4, none⟩) (show w.heap.size + 1 < _ by omega)).trans x_15; have qa16 := (hbA.cell (p := ⟨w.heap.size + 1, 5, none⟩) (show w.heap.size + 1 < _ by omega)).trans x_16; have qa17 := (hbA.cell (p := ⟨w.heap.size + 1, 6, none⟩) (show w.heap.size + 1 < _ by omega)).trans x_17; have qa18 := (hbA.cell (p := ⟨w.heap.size + 1, 7, none⟩) (show w.heap.size + 1 < _ by omega)).trans x_18; have qa19 := (hbA.cell (p := ⟨w.heap.size + 1, 8, none⟩) (show w.heap.size + 1 < _ by omega)).trans x_19; have qa20 := (hbA.cell (p := ⟨w.heap.size + 1, 9, none⟩) (show w.heap.size + 1 < _ by omega)).trans x_20; have qa21 := (hbA.cell (p := ⟨w.heap.size + 1, 10, none⟩) (show w.heap.size + 1 < _ by omega)).trans x_21) | (go_at_call 9; (with_reducible refine (HT1.out _ (hD.trans (hbA.mono (show w102.heap.size ≤ _ by omega)))).mono ?_); rintro e w104 ⟨uhB, ucB, usB, ulB, rfl, huB, hbB⟩; obtain ⟨xh, xc, xs, xl, hcs, q1, q2, q3, q4⟩ := acct_rd huB.rd; simp only [aCells, List.cons.injEq, and_true, true_and] at hcs; obtain ⟨rfl, rfl, rfl, rfl⟩ := hcs; simp only [aH, aS] at q1 q2 q3 q4; obtain ⟨AHB, cHB, rfl, -⟩ := Rep.slice_form q1; obtain ⟨ACB, cCB, rfl, -⟩ := q2.form; obtain ⟨ASB, cSB, rfl, -⟩ := q3.form; obtain ⟨ALB, cLB, rfl, -⟩ := Rep.slice_form q4; clear q1 q2 q3 q4; have zB := hbB.size; have qb0 := (hbB.cell (p := ⟨w.heap.size, 0, none⟩) (show w.heap.size < _ by omega)).trans qa0; have qb1 := (hbB.cell (p := ⟨w.heap.size, 1, none⟩) (show w.heap.size < _ by omega)).trans qa1; have qb2 := (hbB.cell (p := ⟨w.heap.size, 2, none⟩) (show w.heap.size < _ by omega)).trans qa2; have qb3 := (hbB.cell (p := ⟨w.heap.size, 3, none⟩) (show w.heap.size < _ by omega)).trans qa3; have qb4 := (hbB.cell (p := ⟨w.heap.size, 4, none⟩) (show w.heap.size < _ by omega)).trans qa4; have qb5 := (hbB.cell (p := ⟨w.heap.size, 5, none⟩) (show w.heap.size < _ by omega)).trans qa5; have qb6 := (hbB.cell (p := ⟨w.heap.size, 6, none⟩) (show w.heap.size < _ by omega)).trans qa6; have qb7 := (hbB.cell (p := ⟨w.heap.size, 7, none⟩) (show w.heap.size < _ by omega)).trans qa7; have qb8 := (hbB.cell (p := ⟨w.heap.size, 8, none⟩) (show w.heap.size < _ by omega)).trans qa8; have qb9 := (hbB.cell (p := ⟨w.heap.size, 9, none⟩) (show w.heap.size < _ by omega)).trans qa9; have qb10 := (hbB.cell (p := ⟨w.heap.size, 10, none⟩) (show w.heap.size < _ by omega)).trans qa10; have qb11 := (hbB.cell (p := ⟨w.heap.size + 1, 0, none⟩) (show w.heap.size + 1 < _ by omega)).trans qa11; have qb12 := (hbB.cell (p := ⟨w.heap.size + 1, 1, none⟩) (show w.heap.size + 1 < _ by omega)).trans qa12; have qb13 := (hbB.cell (p := ⟨w.heap.size + 1, 2, none⟩) (show w.heap.size + 1 < _ by omega)).trans qa13; have qb14 := (hbB.cell (p := ⟨w.heap.size + 1, 3, none⟩) (show w.heap.size + 1 < _ by omega)).trans qa14; have qb15 := (hbB.cell (p := ⟨w.heap.size + 1, 4, none⟩) (show w.heap.size + 1 < _ by omega)).trans qa15; have qb16 := (hbB.cell (p := ⟨w.heap.size + 1, 5, none⟩) (show w.heap.size + 1 < _ by omega)).trans qa16; have qb17 := (hbB.cell (p := ⟨w.heap.size + 1, 6, none⟩) (show w.heap.size + 1 < _ by omega)).trans qa17; have qb18 := (hbB.cell (p := ⟨w.heap.size + 1, 7, none⟩) (show w.heap.size + 1 < _ by omega)).trans qa18; have qb19 := (hbB.cell (p := ⟨w.heap.size + 1, 8, none⟩) (show w.heap.size + 1 < _ by omega)).trans qa19; have qb20 := (hbB.cell (p := ⟨w.heap.size + 1, 9, none⟩) (show w.heap.size + 1 < _ by omega)).trans qa20; have qb21 := (hbB.cell (p := ⟨w.heap.size + 1, 10, none⟩) (show w.heap.size + 1 < _ by omega)).trans qa21) | (go_at_call 8; refine (specAcctSame_any w104.heap.size (.slice AHA hs0.length cHA) (.slice ACA cs0.length cCA) (.slice ASA ss0.length cSA) (.slice ALA sl0.length cLA) (.slice AHB hs1.length cHB) (.slice ACB cs1.length cCB) (.slice ASB ss1.length cSB) (.slice ALB sl1.length cLB) (id0, lm0, ps0, mo0, su0, hs0, (sp0, hd0, cs0, ss0), sl0) (id1, lm1, ps1, mo1, su1, hs1, (sp1, hd1, cs1, ss1), sl1) w104 HS0.out (AcctR.rd_mono (Rep.below (R := AcctR) huA.rd hbB (Nat.le_refl _)) (by omega)) huB.rd (Nat.le_refl _)).mono ?_; rintro e w105 ⟨rfl, hbC⟩; have zC := hbC.size; have qc0 := (hbC.cell (p := ⟨w.heap.size, 0, none⟩) (show w.heap.size < _ by omega)).trans qb0; have qc1 := (hbC.cell (p := ⟨w.heap.size, 1, none⟩) (show w.heap.size < _ by omega)).trans qb1; have qc2 := (hbC.cell (p := ⟨w.heap.size, 2, none⟩) (show w.heap.size < _ by omega)).trans qb2; have qc3 := (hbC.cell (p := ⟨w.heap.size, 3, none⟩) (show w.heap.size < _ by omega)).trans qb3; have qc4 := (hbC.cell (p := ⟨w.heap.size, 4, none⟩) (show w.heap.size < _ by omega)).trans qb4; have qc5 := (hbC.cell (p := ⟨w.heap.size, 5, none⟩) (show w.heap.size < _ by omega)).trans qb5; have qc6 := (hbC.cell (p := ⟨w.heap.size, 6, none⟩) (show w.heap.size < _ by omega)).trans qb6; have qc7 := (hbC.cell (p := ⟨w.heap.size, 7, none⟩) (show w.heap.size < _ by omega)).trans qb7; have qc8 := (hbC.cell (p := ⟨w.heap.size, 8, none⟩) (show w.heap.size < _ by omega)).trans qb8; have qc9 := (hbC.cell (p := ⟨w.heap.size, 9, none⟩) (show w.heap.size < _ by omega)).trans qb9; have qc10 := (hbC.cell (p := ⟨w.heap.size, 10, none⟩) (show w.heap.size < _ by omega)).trans qb10; have qc11 := (hbC.cell (p := ⟨w.heap.size + 1, 0, none⟩) (show w.heap.size + 1 < _ by omega)).trans qb11; have qc12 := (hbC.cell (p := ⟨w.heap.size + 1, 1, none⟩) (show w.heap.size + 1 < _ by omega)).trans qb12; have qc13 := (hbC.cell (p := ⟨w.heap.size + 1, 2, none⟩) (show w.heap.size + 1 < _ by omega)).trans qb13; have qc14 := (hbC.cell (p := ⟨w.heap.size + 1, 3, none⟩) (show w.heap.size + 1 < _ by omega)).trans qb14; have qc15 := (hbC.cell (p := ⟨w.heap.size + 1, 4, none⟩) (show w.heap.size + 1 < _ by omega)).trans qb15; have qc16 := (hbC.cell (p := ⟨w.heap.size + 1, 5, none⟩) (show w.heap.size + 1 < _ by omega)).trans qb16; have qc17 := (hbC.cell (p := ⟨w.heap.size + 1, 6, none⟩) (show w.heap.size + 1 < _ by omega)).trans qb17; have qc18 := (hbC.cell (p := ⟨w.heap.size + 1, 7, none⟩) (show w.heap.size + 1 < _ by omega)).trans qb18; have qc19 := (hbC.cell (p := ⟨w.heap.size + 1, 8, none⟩) (show w.heap.size + 1 < _ by omega)).trans qb19; have qc20 := (hbC.cell (p := ⟨w.heap.size + 1, 9, none⟩) (show w.heap.size + 1 < _ by omega)).trans qb20; have qc21 := (hbC.cell (p := ⟨w.heap.size + 1, 10, none⟩) (show w.heap.size + 1 < _ by omega)).trans qb21) | fail)
  have hb5 : Below w102.heap.size w102 w105 := ((hD.trans (hbA.mono (show w102.heap.size ≤ _ by omega))).trans (hbB.mono (show w102.heap.size ≤ _ by omega))).trans (hbC.mono (show w102.heap.size ≤ _ by omega))
  have hB5 := hB2.trans (hb5.mono (show w.heap.size + 2 ≤ _ by omega))
  have zz105 : w102.heap.size ≤ w105.heap.size := hb5.size
  clear hbA hbB hbC huA huB qa0 qb0 qc0 qa1 qb1 qc1 qa2 qb2 qc2 qa3 qb3 qc3 qa4 qb4 qc4 qa5 qb5 qc5 qa6 qb6 qc6 qa7 qb7 qc7 qa8 qb8 qc8 qa9 qb9 qc9 qa10 qb10 qc10 qa11 qb11 qc11 qa12 qb12 qc12 qa13 qb13 qc13 qa14 qb14 qc14 qa15 qb15 qc15 qa16 qb16 qc16 qa17 qb17 qc17 qa18 qb18 qc18 qa19 qb19 qc19 qa20 qb20 qc20 qa21 qb21 qc21 hD zD zA zB zC HT0 HT1
  replace HX0 := Lib.hid (Rep.below (R := AcctR) HX0.out hb5 (by omega))
  replace HX1 := Lib.hid (Rep.below (R := AcctR) HX1.out hb5 (by omega))
  clear x_0 x_1 x_2 x_3 x_4 x_5 x_6 x_7 x_8 x_9 x_10 x_11 x_12 x_13 x_14 x_15 x_16 x_17 x_18 x_19 x_20 x_21
  obtain ⟨x_0, x_1, x_2, x_3, x_4, x_5, x_6, x_7, x_8, x_9, x_10, x_11, x_12, x_13, x_14, x_15, x_16, x_17, x_18, x_19, x_20, x_21⟩ := HX.out w105 hB5
  go_wp2_with fail
  refine (toAcct_any w.heap.size (.slice AH0 hs0.length cH0) (.slice AC0 cs0.length cC0) (.slice AS0 ss0.length cS0) (.slice AL0 sl0.length cL0) (id0, lm0, ps0, mo0, su0, hs0, (sp0, hd0, cs0, ss0), sl0) w105 HS0.out HX0.out (by omega)).mono ?_
  rintro e w106 ⟨uh_6, uc_6, us_6, ul_6, rfl, hu6, hb6⟩
  obtain ⟨xh, xc, xs, xl, hcs, q1, q2, q3, q4⟩ := acct_rd hu6.rd
  simp only [aCells, List.cons.injEq, and_true, true_and] at hcs
  obtain ⟨rfl, rfl, rfl, rfl⟩ := hcs
  simp only [aH, aS] at q1 q2 q3 q4
  obtain ⟨AH_6, cH_6, rfl, -⟩ := Rep.slice_form q1
  obtain ⟨AC_6, cC_6, rfl, -⟩ := q2.form
  obtain ⟨AS_6, cS_6, rfl, -⟩ := q3.form
  obtain ⟨AL_6, cL_6, rfl, -⟩ := Rep.slice_form q4
  clear q1 q2 q3 q4
  simp only [aId, aLim, aPos, aMost, aSum]
  have zz106 : w105.heap.size ≤ w106.heap.size := hb6.size
  have hB6 := hB5.trans (hb6.mono (show w.heap.size + 2 ≤ _ by omega))
  replace HX0 := Lib.hid (Rep.below (R := AcctR) HX0.out hb6 (by omega))
  replace HX1 := Lib.hid (Rep.below (R := AcctR) HX1.out hb6 (by omega))
  clear x_0 x_1 x_2 x_3 x_4 x_5 x_6 x_7 x_8 x_9 x_10 x_11 x_12 x_13 x_14 x_15 x_16 x_17 x_18 x_19 x_20 x_21
  obtain ⟨x_0, x_1, x_2, x_3, x_4, x_5, x_6, x_7, x_8, x_9, x_10, x_11, x_12, x_13, x_14, x_15, x_16, x_17, x_18, x_19, x_20, x_21⟩ := HX.out w106 hB6
  have H4 := Lib.hid hu6
  have yy6_0 : w.heap.size < w106.heap.size := by omega
  have yy6_1 : w.heap.size + 1 < w106.heap.size := by omega
  go_wp2_with fail
  have hb7 := (Below.refl w106.heap.size w106).alloc (Nat.le_refl _) (.cells #[.string id0, .int .i64 lm0, .int .i64 ps0, .int .i64 mo0, .int .i64 su0, .slice AH_6 hs0.length cH_6, .int .i64 sp0, .int .i64 hd0, .slice AC_6 cs0.length cC_6, .slice AS_6 ss0.length cS_6, .slice AL_6 sl0.length cL_6] 36)
  have hX4 := heap_alloc_new w106 (.cells #[.string id0, .int .i64 lm0, .int .i64 ps0, .int .i64 mo0, .int .i64 su0, .slice AH_6 hs0.length cH_6, .int .i64 sp0, .int .i64 hd0, .slice AC_6 cs0.length cC_6, .slice AS_6 ss0.length cS_6, .slice AL_6 sl0.length cL_6] 36)
  generalize w106.alloc (.cells #[.string id0, .int .i64 lm0, .int .i64 ps0, .int .i64 mo0, .int .i64 su0, .slice AH_6 hs0.length cH_6, .int .i64 sp0, .int .i64 hd0, .slice AC_6 cs0.length cC_6, .slice AS_6 ss0.length cS_6, .slice AL_6 sl0.length cL_6] 36) = w107 at hb7 hX4 ⊢
  have zz107 : w106.heap.size ≤ w107.heap.size := hb7.size
  have zl7 : w106.heap.size < w107.heap.size := lt_of_block hX4
  have hB7 := hB6.trans (hb7.mono (show w.heap.size + 2 ≤ _ by omega))
  replace HX0 := Lib.hid (Rep.below (R := AcctR) HX0.out hb7 (by omega))
  replace HX1 := Lib.hid (Rep.below (R := AcctR) HX1.out hb7 (by omega))
  replace H4 := Lib.hid (H4.out.below hb7 (by omega))
  have X4 := Lib.hid hX4
  clear hX4
  clear x_0 x_1 x_2 x_3 x_4 x_5 x_6 x_7 x_8 x_9 x_10 x_11 x_12 x_13 x_14 x_15 x_16 x_17 x_18 x_19 x_20 x_21
  obtain ⟨x_0, x_1, x_2, x_3, x_4, x_5, x_6, x_7, x_8, x_9, x_10, x_11, x_12, x_13, x_14, x_15, x_16, x_17, x_18, x_19, x_20, x_21⟩ := HX.out w107 hB7
  have X4c0 := cell_of_row _ _ 0 _ _ (0, 0) X4.out
  have X4c1 := cell_of_row _ _ 1 _ _ (0, 0) X4.out
  have X4c2 := cell_of_row _ _ 2 _ _ (0, 0) X4.out
  have X4c3 := cell_of_row _ _ 3 _ _ (0, 0) X4.out
  have X4c4 := cell_of_row _ _ 4 _ _ (0, 0) X4.out
  have X4c5 := cell_of_row _ _ 5 _ _ (0, 0) X4.out
  have X4c6 := cell_of_row _ _ 6 _ _ (0, 0) X4.out
  have X4c7 := cell_of_row _ _ 7 _ _ (0, 0) X4.out
  have X4c8 := cell_of_row _ _ 8 _ _ (0, 0) X4.out
  have X4c9 := cell_of_row _ _ 9 _ _ (0, 0) X4.out
  have X4c10 := cell_of_row _ _ 10 _ _ (0, 0) X4.out
  simp only [List.getElem?_toArray, List.getElem?_cons_zero, List.getElem?_cons_succ] at X4c0 X4c1 X4c2 X4c3 X4c4 X4c5 X4c6 X4c7 X4c8 X4c9 X4c10
  go_wp2_with fail
  refine (toAcct_any w.heap.size (.slice AH1 hs1.length cH1) (.slice AC1 cs1.length cC1) (.slice AS1 ss1.length cS1) (.slice AL1 sl1.length cL1) (id1, lm1, ps1, mo1, su1, hs1, (sp1, hd1, cs1, ss1), sl1) w107 HS1.out HX1.out (by omega)).mono ?_
  rintro e w108 ⟨uh_8, uc_8, us_8, ul_8, rfl, hu8, hb8⟩
  obtain ⟨xh, xc, xs, xl, hcs, q1, q2, q3, q4⟩ := acct_rd hu8.rd
  simp only [aCells, List.cons.injEq, and_true, true_and] at hcs
  obtain ⟨rfl, rfl, rfl, rfl⟩ := hcs
  simp only [aH, aS] at q1 q2 q3 q4
  obtain ⟨AH_8, cH_8, rfl, -⟩ := Rep.slice_form q1
  obtain ⟨AC_8, cC_8, rfl, -⟩ := q2.form
  obtain ⟨AS_8, cS_8, rfl, -⟩ := q3.form
  obtain ⟨AL_8, cL_8, rfl, -⟩ := Rep.slice_form q4
  clear q1 q2 q3 q4
  simp only [aId, aLim, aPos, aMost, aSum]
  have zz108 : w107.heap.size ≤ w108.heap.size := hb8.size
  have hB8 := hB7.trans (hb8.mono (show w.heap.size + 2 ≤ _ by omega))
  replace HX0 := Lib.hid (Rep.below (R := AcctR) HX0.out hb8 (by omega))
  replace HX1 := Lib.hid (Rep.below (R := AcctR) HX1.out hb8 (by omega))
  replace H4 := Lib.hid (H4.out.below hb8 (by omega))
  replace X4 := Lib.hid ((hb8.block _ (by omega)).trans X4.out)
  clear x_0 x_1 x_2 x_3 x_4 x_5 x_6 x_7 x_8 x_9 x_10 x_11 x_12 x_13 x_14 x_15 x_16 x_17 x_18 x_19 x_20 x_21
  obtain ⟨x_0, x_1, x_2, x_3, x_4, x_5, x_6, x_7, x_8, x_9, x_10, x_11, x_12, x_13, x_14, x_15, x_16, x_17, x_18, x_19, x_20, x_21⟩ := HX.out w108 hB8
  have H5 := Lib.hid hu8
  clear X4c0 X4c1 X4c2 X4c3 X4c4 X4c5 X4c6 X4c7 X4c8 X4c9 X4c10
  have X4c0 := cell_of_row _ _ 0 _ _ (0, 0) X4.out
  have X4c1 := cell_of_row _ _ 1 _ _ (0, 0) X4.out
  have X4c2 := cell_of_row _ _ 2 _ _ (0, 0) X4.out
  have X4c3 := cell_of_row _ _ 3 _ _ (0, 0) X4.out
  have X4c4 := cell_of_row _ _ 4 _ _ (0, 0) X4.out
  have X4c5 := cell_of_row _ _ 5 _ _ (0, 0) X4.out
  have X4c6 := cell_of_row _ _ 6 _ _ (0, 0) X4.out
  have X4c7 := cell_of_row _ _ 7 _ _ (0, 0) X4.out
  have X4c8 := cell_of_row _ _ 8 _ _ (0, 0) X4.out
  have X4c9 := cell_of_row _ _ 9 _ _ (0, 0) X4.out
  have X4c10 := cell_of_row _ _ 10 _ _ (0, 0) X4.out
  simp only [List.getElem?_toArray, List.getElem?_cons_zero, List.getElem?_cons_succ] at X4c0 X4c1 X4c2 X4c3 X4c4 X4c5 X4c6 X4c7 X4c8 X4c9 X4c10
  have yy8_0 : w.heap.size < w108.heap.size := by omega
  have yy8_1 : w.heap.size + 1 < w108.heap.size := by omega
  have yy8X4 : w106.heap.size < w108.heap.size := by omega
  go_wp2_with fail
  have hb9 := (Below.refl w108.heap.size w108).alloc (Nat.le_refl _) (.cells #[.string id1, .int .i64 lm1, .int .i64 ps1, .int .i64 mo1, .int .i64 su1, .slice AH_8 hs1.length cH_8, .int .i64 sp1, .int .i64 hd1, .slice AC_8 cs1.length cC_8, .slice AS_8 ss1.length cS_8, .slice AL_8 sl1.length cL_8] 36)
  have hX5 := heap_alloc_new w108 (.cells #[.string id1, .int .i64 lm1, .int .i64 ps1, .int .i64 mo1, .int .i64 su1, .slice AH_8 hs1.length cH_8, .int .i64 sp1, .int .i64 hd1, .slice AC_8 cs1.length cC_8, .slice AS_8 ss1.length cS_8, .slice AL_8 sl1.length cL_8] 36)
  generalize w108.alloc (.cells #[.string id1, .int .i64 lm1, .int .i64 ps1, .int .i64 mo1, .int .i64 su1, .slice AH_8 hs1.length cH_8, .int .i64 sp1, .int .i64 hd1, .slice AC_8 cs1.length cC_8, .slice AS_8 ss1.length cS_8, .slice AL_8 sl1.length cL_8] 36) = w109 at hb9 hX5 ⊢
  have zz109 : w108.heap.size ≤ w109.heap.size := hb9.size
  have zl9 : w108.heap.size < w109.heap.size := lt_of_block hX5
  have hB9 := hB8.trans (hb9.mono (show w.heap.size + 2 ≤ _ by omega))
  replace HX0 := Lib.hid (Rep.below (R := AcctR) HX0.out hb9 (by omega))
  replace HX1 := Lib.hid (Rep.below (R := AcctR) HX1.out hb9 (by omega))
  replace H4 := Lib.hid (H4.out.below hb9 (by omega))
  replace X4 := Lib.hid ((hb9.block _ (by omega)).trans X4.out)
  replace H5 := Lib.hid (H5.out.below hb9 (by omega))
  have X5 := Lib.hid hX5
  clear hX5
  clear x_0 x_1 x_2 x_3 x_4 x_5 x_6 x_7 x_8 x_9 x_10 x_11 x_12 x_13 x_14 x_15 x_16 x_17 x_18 x_19 x_20 x_21
  obtain ⟨x_0, x_1, x_2, x_3, x_4, x_5, x_6, x_7, x_8, x_9, x_10, x_11, x_12, x_13, x_14, x_15, x_16, x_17, x_18, x_19, x_20, x_21⟩ := HX.out w109 hB9
  have X5c0 := cell_of_row _ _ 0 _ _ (0, 0) X5.out
  have X5c1 := cell_of_row _ _ 1 _ _ (0, 0) X5.out
  have X5c2 := cell_of_row _ _ 2 _ _ (0, 0) X5.out
  have X5c3 := cell_of_row _ _ 3 _ _ (0, 0) X5.out
  have X5c4 := cell_of_row _ _ 4 _ _ (0, 0) X5.out
  have X5c5 := cell_of_row _ _ 5 _ _ (0, 0) X5.out
  have X5c6 := cell_of_row _ _ 6 _ _ (0, 0) X5.out
  have X5c7 := cell_of_row _ _ 7 _ _ (0, 0) X5.out
  have X5c8 := cell_of_row _ _ 8 _ _ (0, 0) X5.out
  have X5c9 := cell_of_row _ _ 9 _ _ (0, 0) X5.out
  have X5c10 := cell_of_row _ _ 10 _ _ (0, 0) X5.out
  simp only [List.getElem?_toArray, List.getElem?_cons_zero, List.getElem?_cons_succ] at X5c0 X5c1 X5c2 X5c3 X5c4 X5c5 X5c6 X5c7 X5c8 X5c9 X5c10
  go_wp2_with fail
  refine (implAcctSame_any _ (.slice AH_6 hs0.length cH_6) (.slice AC_6 cs0.length cC_6) (.slice AS_6 ss0.length cS_6) (.slice AL_6 sl0.length cL_6) (.slice AH_8 hs1.length cH_8) (.slice AC_8 cs1.length cC_8) (.slice AS_8 ss1.length cS_8) (.slice AL_8 sl1.length cL_8) (id0, lm0, ps0, mo0, su0, hs0, (sp0, hd0, cs0, ss0), sl0) (id1, lm1, ps1, mo1, su1, hs1, (sp1, hd1, cs1, ss1), sl1) w109 HS0.out (AcctR.rd_mono H4.out.rd (by omega)) H5.out.rd (by omega)).mono ?_
  rintro e w110 ⟨rfl, hb10⟩
  have zz110 : w109.heap.size ≤ w110.heap.size := hb10.size
  have hB10 := hB9.trans (hb10.mono (show w.heap.size + 2 ≤ _ by omega))
  replace HX0 := Lib.hid (Rep.below (R := AcctR) HX0.out hb10 (by omega))
  replace HX1 := Lib.hid (Rep.below (R := AcctR) HX1.out hb10 (by omega))
  replace H4 := Lib.hid (H4.out.below hb10 (by omega))
  replace X4 := Lib.hid ((hb10.block _ (by omega)).trans X4.out)
  replace H5 := Lib.hid (H5.out.below hb10 (by omega))
  replace X5 := Lib.hid ((hb10.block _ (by omega)).trans X5.out)
  clear x_0 x_1 x_2 x_3 x_4 x_5 x_6 x_7 x_8 x_9 x_10 x_11 x_12 x_13 x_14 x_15 x_16 x_17 x_18 x_19 x_20 x_21
  obtain ⟨x_0, x_1, x_2, x_3, x_4, x_5, x_6, x_7, x_8, x_9, x_10, x_11, x_12, x_13, x_14, x_15, x_16, x_17, x_18, x_19, x_20, x_21⟩ := HX.out w110 hB10
  clear X4c0 X4c1 X4c2 X4c3 X4c4 X4c5 X4c6 X4c7 X4c8 X4c9 X4c10
  clear X5c0 X5c1 X5c2 X5c3 X5c4 X5c5 X5c6 X5c7 X5c8 X5c9 X5c10
  have X4c0 := cell_of_row _ _ 0 _ _ (0, 0) X4.out
  have X4c1 := cell_of_row _ _ 1 _ _ (0, 0) X4.out
  have X4c2 := cell_of_row _ _ 2 _ _ (0, 0) X4.out
  have X4c3 := cell_of_row _ _ 3 _ _ (0, 0) X4.out
  have X4c4 := cell_of_row _ _ 4 _ _ (0, 0) X4.out
  have X4c5 := cell_of_row _ _ 5 _ _ (0, 0) X4.out
  have X4c6 := cell_of_row _ _ 6 _ _ (0, 0) X4.out
  have X4c7 := cell_of_row _ _ 7 _ _ (0, 0) X4.out
  have X4c8 := cell_of_row _ _ 8 _ _ (0, 0) X4.out
  have X4c9 := cell_of_row _ _ 9 _ _ (0, 0) X4.out
  have X4c10 := cell_of_row _ _ 10 _ _ (0, 0) X4.out
  simp only [List.getElem?_toArray, List.getElem?_cons_zero, List.getElem?_cons_succ] at X4c0 X4c1 X4c2 X4c3 X4c4 X4c5 X4c6 X4c7 X4c8 X4c9 X4c10
  have X5c0 := cell_of_row _ _ 0 _ _ (0, 0) X5.out
  have X5c1 := cell_of_row _ _ 1 _ _ (0, 0) X5.out
  have X5c2 := cell_of_row _ _ 2 _ _ (0, 0) X5.out
  have X5c3 := cell_of_row _ _ 3 _ _ (0, 0) X5.out
  have X5c4 := cell_of_row _ _ 4 _ _ (0, 0) X5.out
  have X5c5 := cell_of_row _ _ 5 _ _ (0, 0) X5.out
  have X5c6 := cell_of_row _ _ 6 _ _ (0, 0) X5.out
  have X5c7 := cell_of_row _ _ 7 _ _ (0, 0) X5.out
  have X5c8 := cell_of_row _ _ 8 _ _ (0, 0) X5.out
  have X5c9 := cell_of_row _ _ 9 _ _ (0, 0) X5.out
  have X5c10 := cell_of_row _ _ 10 _ _ (0, 0) X5.out
  simp only [List.getElem?_toArray, List.getElem?_cons_zero, List.getElem?_cons_succ] at X5c0 X5c1 X5c2 X5c3 X5c4 X5c5 X5c6 X5c7 X5c8 X5c9 X5c10
  generalize acctSame (id0, lm0, ps0, mo0, su0, hs0, (sp0, hd0, cs0, ss0), sl0) (id1, lm1, ps1, mo1, su1, hs1, (sp1, hd1, cs1, ss1), sl1) = res
  go_wp2
  have hD : Below w110.heap.size w110 w110.drew := (Below.refl _ _).drew
  have zD : w110.drew.heap.size = w110.heap.size := rfl
  go_region_held3 (fun V => V.cell? ⟨w106.heap.size, 0, none⟩ = some (.string id0) ∧ V.cell? ⟨w106.heap.size, 1, none⟩ = some (.int .i64 lm0) ∧ V.cell? ⟨w106.heap.size, 2, none⟩ = some (.int .i64 ps0) ∧ V.cell? ⟨w106.heap.size, 3, none⟩ = some (.int .i64 mo0) ∧ V.cell? ⟨w106.heap.size, 4, none⟩ = some (.int .i64 su0) ∧ V.cell? ⟨w106.heap.size, 5, none⟩ = some (.slice AH_6 hs0.length cH_6) ∧ V.cell? ⟨w106.heap.size, 6, none⟩ = some (.int .i64 sp0) ∧ V.cell? ⟨w106.heap.size, 7, none⟩ = some (.int .i64 hd0) ∧ V.cell? ⟨w106.heap.size, 8, none⟩ = some (.slice AC_6 cs0.length cC_6) ∧ V.cell? ⟨w106.heap.size, 9, none⟩ = some (.slice AS_6 ss0.length cS_6) ∧ V.cell? ⟨w106.heap.size, 10, none⟩ = some (.slice AL_6 sl0.length cL_6) ∧ V.cell? ⟨w.heap.size, 0, none⟩ = some (.string id0) ∧ V.cell? ⟨w.heap.size, 1, none⟩ = some (.int .i64 lm0) ∧ V.cell? ⟨w.heap.size, 2, none⟩ = some (.int .i64 ps0) ∧ V.cell? ⟨w.heap.size, 3, none⟩ = some (.int .i64 mo0) ∧ V.cell? ⟨w.heap.size, 4, none⟩ = some (.int .i64 su0) ∧ V.cell? ⟨w.heap.size, 5, none⟩ = some (.slice AH0 hs0.length cH0) ∧ V.cell? ⟨w.heap.size, 6, none⟩ = some (.int .i64 sp0) ∧ V.cell? ⟨w.heap.size, 7, none⟩ = some (.int .i64 hd0) ∧ V.cell? ⟨w.heap.size, 8, none⟩ = some (.slice AC0 cs0.length cC0) ∧ V.cell? ⟨w.heap.size, 9, none⟩ = some (.slice AS0 ss0.length cS0) ∧ V.cell? ⟨w.heap.size, 10, none⟩ = some (.slice AL0 sl0.length cL0)) (go_keep) (first | (go_at_call 9; refine (toAcct_any w.heap.size (.slice AH0 hs0.length cH0) (.slice AC0 cs0.length cC0) (.slice AS0 ss0.length cS0) (.slice AL0 sl0.length cL0) (id0, lm0, ps0, mo0, su0, hs0, (sp0, hd0, cs0, ss0), sl0) w110.drew HS0.out (Rep.below (R := AcctR) HX0.out hD (by omega)) (show w.heap.size ≤ w110.heap.size by omega)).mono ?_; rintro e w111 ⟨uhq, ucq, usq, ulq, rfl, huq, hbq⟩; obtain ⟨xh, xc, xs, xl, hcs, q1, q2, q3, q4⟩ := acct_rd huq.rd; simp only [aCells, List.cons.injEq, and_true, true_and] at hcs; obtain ⟨rfl, rfl, rfl, rfl⟩ := hcs; simp only [aH, aS] at q1 q2 q3 q4; obtain ⟨AHq, cHq, rfl, -⟩ := Rep.slice_form q1; obtain ⟨ACq, cCq, rfl, -⟩ := q2.form; obtain ⟨ASq, cSq, rfl, -⟩ := q3.form; obtain ⟨ALq, cLq, rfl, -⟩ := Rep.slice_form q4; clear q1 q2 q3 q4; have zq := hbq.size; have qa0 := (hbq.cell (p := ⟨w106.heap.size, 0, none⟩) (show w106.heap.size < _ by omega)).trans X4c0; have qa1 := (hbq.cell (p := ⟨w106.heap.size, 1, none⟩) (show w106.heap.size < _ by omega)).trans X4c1; have qa2 := (hbq.cell (p := ⟨w106.heap.size, 2, none⟩) (show w106.heap.size < _ by omega)).trans X4c2; have qa3 := (hbq.cell (p := ⟨w106.heap.size, 3, none⟩) (show w106.heap.size < _ by omega)).trans X4c3; have qa4 := (hbq.cell (p := ⟨w106.heap.size, 4, none⟩) (show w106.heap.size < _ by omega)).trans X4c4; have qa5 := (hbq.cell (p := ⟨w106.heap.size, 5, none⟩) (show w106.heap.size < _ by omega)).trans X4c5; have qa6 := (hbq.cell (p := ⟨w106.heap.size, 6, none⟩) (show w106.heap.size < _ by omega)).trans X4c6; have qa7 := (hbq.cell (p := ⟨w106.heap.size, 7, none⟩) (show w106.heap.size < _ by omega)).trans X4c7; have qa8 := (hbq.cell (p := ⟨w106.heap.size, 8, none⟩) (show w106.heap.size < _ by omega)).trans X4c8; have qa9 := (hbq.cell (p := ⟨w106.heap.size, 9, none⟩) (show w106.heap.size < _ by omega)).trans X4c9; have qa10 := (hbq.cell (p := ⟨w106.heap.size, 10, none⟩) (show w106.heap.size < _ by omega)).trans X4c10; have qa11 := (hbq.cell (p := ⟨w.heap.size, 0, none⟩) (show w.heap.size < _ by omega)).trans x_0; have qa12 := (hbq.cell (p := ⟨w.heap.size, 1, none⟩) (show w.heap.size < _ by omega)).trans x_1; have qa13 := (hbq.cell (p := ⟨w.heap.size, 2, none⟩) (show w.heap.size < _ by omega)).trans x_2; have qa14 := (hbq.cell (p := ⟨w.heap.size, 3, none⟩) (show w.heap.size < _ by omega)).trans x_3; have qa15 := (hbq.cell (p := ⟨w.heap.size, 4, none⟩) (show w.heap.size < _ by omega)).trans x_4; have qa16 := (hbq.cell (p := ⟨w.heap.size, 5, none⟩) (show w.heap.size < _ by omega)).trans x_5; have qa17 := (hbq.cell (p := ⟨w.heap.size, 6, none⟩) (show w.heap.size < _ by omega)).trans x_6; have qa18 := (hbq.cell (p := ⟨w.heap.size, 7, none⟩) (show w.heap.size < _ by omega)).trans x_7; have qa19 := (hbq.cell (p := ⟨w.heap.size, 8, none⟩) (show w.heap.size < _ by omega)).trans x_8; have qa20 := (hbq.cell (p := ⟨w.heap.size, 9, none⟩) (show w.heap.size < _ by omega)).trans x_9; have qa21 := (hbq.cell (p := ⟨w.heap.size, 10, none⟩) (show w.heap.size < _ by omega)).trans x_10) | (go_at_call 11; refine (eqAcct_any _ _ (.slice AH_6 hs0.length cH_6) (.slice AC_6 cs0.length cC_6) (.slice AS_6 ss0.length cS_6) (.slice AL_6 sl0.length cL_6) (.slice AHq hs0.length cHq) (.slice ACq cs0.length cCq) (.slice ASq ss0.length cSq) (.slice ALq sl0.length cLq) (id0, lm0, ps0, mo0, su0, hs0, (sp0, hd0, cs0, ss0), sl0) w111 HS0.out (Rep.below (R := AcctR) (Rep.below (R := AcctR) H4.out.rd hD (by omega)) hbq (by omega)) huq.rd (by omega) (by omega)).mono ?_; rintro e w112 ⟨rfl, hbr⟩; have qb0 := (hbr.cell (p := ⟨w106.heap.size, 0, none⟩) (show w106.heap.size < _ by omega)).trans qa0; have qb1 := (hbr.cell (p := ⟨w106.heap.size, 1, none⟩) (show w106.heap.size < _ by omega)).trans qa1; have qb2 := (hbr.cell (p := ⟨w106.heap.size, 2, none⟩) (show w106.heap.size < _ by omega)).trans qa2; have qb3 := (hbr.cell (p := ⟨w106.heap.size, 3, none⟩) (show w106.heap.size < _ by omega)).trans qa3; have qb4 := (hbr.cell (p := ⟨w106.heap.size, 4, none⟩) (show w106.heap.size < _ by omega)).trans qa4; have qb5 := (hbr.cell (p := ⟨w106.heap.size, 5, none⟩) (show w106.heap.size < _ by omega)).trans qa5; have qb6 := (hbr.cell (p := ⟨w106.heap.size, 6, none⟩) (show w106.heap.size < _ by omega)).trans qa6; have qb7 := (hbr.cell (p := ⟨w106.heap.size, 7, none⟩) (show w106.heap.size < _ by omega)).trans qa7; have qb8 := (hbr.cell (p := ⟨w106.heap.size, 8, none⟩) (show w106.heap.size < _ by omega)).trans qa8; have qb9 := (hbr.cell (p := ⟨w106.heap.size, 9, none⟩) (show w106.heap.size < _ by omega)).trans qa9; have qb10 := (hbr.cell (p := ⟨w106.heap.size, 10, none⟩) (show w106.heap.size < _ by omega)).trans qa10; have qb11 := (hbr.cell (p := ⟨w.heap.size, 0, none⟩) (show w.heap.size < _ by omega)).trans qa11; have qb12 := (hbr.cell (p := ⟨w.heap.size, 1, none⟩) (show w.heap.size < _ by omega)).trans qa12; have qb13 := (hbr.cell (p := ⟨w.heap.size, 2, none⟩) (show w.heap.size < _ by omega)).trans qa13; have qb14 := (hbr.cell (p := ⟨w.heap.size, 3, none⟩) (show w.heap.size < _ by omega)).trans qa14; have qb15 := (hbr.cell (p := ⟨w.heap.size, 4, none⟩) (show w.heap.size < _ by omega)).trans qa15; have qb16 := (hbr.cell (p := ⟨w.heap.size, 5, none⟩) (show w.heap.size < _ by omega)).trans qa16; have qb17 := (hbr.cell (p := ⟨w.heap.size, 6, none⟩) (show w.heap.size < _ by omega)).trans qa17; have qb18 := (hbr.cell (p := ⟨w.heap.size, 7, none⟩) (show w.heap.size < _ by omega)).trans qa18; have qb19 := (hbr.cell (p := ⟨w.heap.size, 8, none⟩) (show w.heap.size < _ by omega)).trans qa19; have qb20 := (hbr.cell (p := ⟨w.heap.size, 9, none⟩) (show w.heap.size < _ by omega)).trans qa20; have qb21 := (hbr.cell (p := ⟨w.heap.size, 10, none⟩) (show w.heap.size < _ by omega)).trans qa21) | fail)
  have hb12 : Below w110.heap.size w110 w112 := (hD.trans (hbq.mono (show w110.heap.size ≤ _ by omega))).trans (hbr.mono (show w110.heap.size ≤ _ by omega))
  have hB12 := hB10.trans (hb12.mono (show w.heap.size + 2 ≤ _ by omega))
  have zz112 : w110.heap.size ≤ w112.heap.size := hb12.size
  clear hbq hbr huq qa0 qb0 qa1 qb1 qa2 qb2 qa3 qb3 qa4 qb4 qa5 qb5 qa6 qb6 qa7 qb7 qa8 qb8 qa9 qb9 qa10 qb10 qa11 qb11 qa12 qb12 qa13 qb13 qa14 qb14 qa15 qb15 qa16 qb16 qa17 qb17 qa18 qb18 qa19 qb19 qa20 qb20 qa21 qb21 hD zD
  replace HX0 := Lib.hid (Rep.below (R := AcctR) HX0.out hb12 (by omega))
  replace HX1 := Lib.hid (Rep.below (R := AcctR) HX1.out hb12 (by omega))
  replace H4 := Lib.hid (H4.out.below hb12 (by omega))
  replace X4 := Lib.hid ((hb12.block _ (by omega)).trans X4.out)
  replace H5 := Lib.hid (H5.out.below hb12 (by omega))
  replace X5 := Lib.hid ((hb12.block _ (by omega)).trans X5.out)
  clear x_0 x_1 x_2 x_3 x_4 x_5 x_6 x_7 x_8 x_9 x_10 x_11 x_12 x_13 x_14 x_15 x_16 x_17 x_18 x_19 x_20 x_21
  obtain ⟨x_0, x_1, x_2, x_3, x_4, x_5, x_6, x_7, x_8, x_9, x_10, x_11, x_12, x_13, x_14, x_15, x_16, x_17, x_18, x_19, x_20, x_21⟩ := HX.out w112 hB12
  clear X4c0 X4c1 X4c2 X4c3 X4c4 X4c5 X4c6 X4c7 X4c8 X4c9 X4c10
  clear X5c0 X5c1 X5c2 X5c3 X5c4 X5c5 X5c6 X5c7 X5c8 X5c9 X5c10
  have X4c0 := cell_of_row _ _ 0 _ _ (0, 0) X4.out
  have X4c1 := cell_of_row _ _ 1 _ _ (0, 0) X4.out
  have X4c2 := cell_of_row _ _ 2 _ _ (0, 0) X4.out
  have X4c3 := cell_of_row _ _ 3 _ _ (0, 0) X4.out
  have X4c4 := cell_of_row _ _ 4 _ _ (0, 0) X4.out
  have X4c5 := cell_of_row _ _ 5 _ _ (0, 0) X4.out
  have X4c6 := cell_of_row _ _ 6 _ _ (0, 0) X4.out
  have X4c7 := cell_of_row _ _ 7 _ _ (0, 0) X4.out
  have X4c8 := cell_of_row _ _ 8 _ _ (0, 0) X4.out
  have X4c9 := cell_of_row _ _ 9 _ _ (0, 0) X4.out
  have X4c10 := cell_of_row _ _ 10 _ _ (0, 0) X4.out
  simp only [List.getElem?_toArray, List.getElem?_cons_zero, List.getElem?_cons_succ] at X4c0 X4c1 X4c2 X4c3 X4c4 X4c5 X4c6 X4c7 X4c8 X4c9 X4c10
  have X5c0 := cell_of_row _ _ 0 _ _ (0, 0) X5.out
  have X5c1 := cell_of_row _ _ 1 _ _ (0, 0) X5.out
  have X5c2 := cell_of_row _ _ 2 _ _ (0, 0) X5.out
  have X5c3 := cell_of_row _ _ 3 _ _ (0, 0) X5.out
  have X5c4 := cell_of_row _ _ 4 _ _ (0, 0) X5.out
  have X5c5 := cell_of_row _ _ 5 _ _ (0, 0) X5.out
  have X5c6 := cell_of_row _ _ 6 _ _ (0, 0) X5.out
  have X5c7 := cell_of_row _ _ 7 _ _ (0, 0) X5.out
  have X5c8 := cell_of_row _ _ 8 _ _ (0, 0) X5.out
  have X5c9 := cell_of_row _ _ 9 _ _ (0, 0) X5.out
  have X5c10 := cell_of_row _ _ 10 _ _ (0, 0) X5.out
  simp only [List.getElem?_toArray, List.getElem?_cons_zero, List.getElem?_cons_succ] at X5c0 X5c1 X5c2 X5c3 X5c4 X5c5 X5c6 X5c7 X5c8 X5c9 X5c10
  go_wp2
  have hD : Below w112.heap.size w112 w112.drew := (Below.refl _ _).drew
  have zD : w112.drew.heap.size = w112.heap.size := rfl
  go_region_held3 (fun V => V.cell? ⟨w108.heap.size, 0, none⟩ = some (.string id1) ∧ V.cell? ⟨w108.heap.size, 1, none⟩ = some (.int .i64 lm1) ∧ V.cell? ⟨w108.heap.size, 2, none⟩ = some (.int .i64 ps1) ∧ V.cell? ⟨w108.heap.size, 3, none⟩ = some (.int .i64 mo1) ∧ V.cell? ⟨w108.heap.size, 4, none⟩ = some (.int .i64 su1) ∧ V.cell? ⟨w108.heap.size, 5, none⟩ = some (.slice AH_8 hs1.length cH_8) ∧ V.cell? ⟨w108.heap.size, 6, none⟩ = some (.int .i64 sp1) ∧ V.cell? ⟨w108.heap.size, 7, none⟩ = some (.int .i64 hd1) ∧ V.cell? ⟨w108.heap.size, 8, none⟩ = some (.slice AC_8 cs1.length cC_8) ∧ V.cell? ⟨w108.heap.size, 9, none⟩ = some (.slice AS_8 ss1.length cS_8) ∧ V.cell? ⟨w108.heap.size, 10, none⟩ = some (.slice AL_8 sl1.length cL_8) ∧ V.cell? ⟨w.heap.size + 1, 0, none⟩ = some (.string id1) ∧ V.cell? ⟨w.heap.size + 1, 1, none⟩ = some (.int .i64 lm1) ∧ V.cell? ⟨w.heap.size + 1, 2, none⟩ = some (.int .i64 ps1) ∧ V.cell? ⟨w.heap.size + 1, 3, none⟩ = some (.int .i64 mo1) ∧ V.cell? ⟨w.heap.size + 1, 4, none⟩ = some (.int .i64 su1) ∧ V.cell? ⟨w.heap.size + 1, 5, none⟩ = some (.slice AH1 hs1.length cH1) ∧ V.cell? ⟨w.heap.size + 1, 6, none⟩ = some (.int .i64 sp1) ∧ V.cell? ⟨w.heap.size + 1, 7, none⟩ = some (.int .i64 hd1) ∧ V.cell? ⟨w.heap.size + 1, 8, none⟩ = some (.slice AC1 cs1.length cC1) ∧ V.cell? ⟨w.heap.size + 1, 9, none⟩ = some (.slice AS1 ss1.length cS1) ∧ V.cell? ⟨w.heap.size + 1, 10, none⟩ = some (.slice AL1 sl1.length cL1)) (go_keep) (first | (go_at_call 9; refine (toAcct_any w.heap.size (.slice AH1 hs1.length cH1) (.slice AC1 cs1.length cC1) (.slice AS1 ss1.length cS1) (.slice AL1 sl1.length cL1) (id1, lm1, ps1, mo1, su1, hs1, (sp1, hd1, cs1, ss1), sl1) w112.drew HS1.out (Rep.below (R := AcctR) HX1.out hD (by omega)) (show w.heap.size ≤ w112.heap.size by omega)).mono ?_; rintro e w113 ⟨uhq, ucq, usq, ulq, rfl, huq, hbq⟩; obtain ⟨xh, xc, xs, xl, hcs, q1, q2, q3, q4⟩ := acct_rd huq.rd; simp only [aCells, List.cons.injEq, and_true, true_and] at hcs; obtain ⟨rfl, rfl, rfl, rfl⟩ := hcs; simp only [aH, aS] at q1 q2 q3 q4; obtain ⟨AHq, cHq, rfl, -⟩ := Rep.slice_form q1; obtain ⟨ACq, cCq, rfl, -⟩ := q2.form; obtain ⟨ASq, cSq, rfl, -⟩ := q3.form; obtain ⟨ALq, cLq, rfl, -⟩ := Rep.slice_form q4; clear q1 q2 q3 q4; have zq := hbq.size; have qa0 := (hbq.cell (p := ⟨w108.heap.size, 0, none⟩) (show w108.heap.size < _ by omega)).trans X5c0; have qa1 := (hbq.cell (p := ⟨w108.heap.size, 1, none⟩) (show w108.heap.size < _ by omega)).trans X5c1; have qa2 := (hbq.cell (p := ⟨w108.heap.size, 2, none⟩) (show w108.heap.size < _ by omega)).trans X5c2; have qa3 := (hbq.cell (p := ⟨w108.heap.size, 3, none⟩) (show w108.heap.size < _ by omega)).trans X5c3; have qa4 := (hbq.cell (p := ⟨w108.heap.size, 4, none⟩) (show w108.heap.size < _ by omega)).trans X5c4; have qa5 := (hbq.cell (p := ⟨w108.heap.size, 5, none⟩) (show w108.heap.size < _ by omega)).trans X5c5; have qa6 := (hbq.cell (p := ⟨w108.heap.size, 6, none⟩) (show w108.heap.size < _ by omega)).trans X5c6; have qa7 := (hbq.cell (p := ⟨w108.heap.size, 7, none⟩) (show w108.heap.size < _ by omega)).trans X5c7; have qa8 := (hbq.cell (p := ⟨w108.heap.size, 8, none⟩) (show w108.heap.size < _ by omega)).trans X5c8; have qa9 := (hbq.cell (p := ⟨w108.heap.size, 9, none⟩) (show w108.heap.size < _ by omega)).trans X5c9; have qa10 := (hbq.cell (p := ⟨w108.heap.size, 10, none⟩) (show w108.heap.size < _ by omega)).trans X5c10; have qa11 := (hbq.cell (p := ⟨w.heap.size + 1, 0, none⟩) (show w.heap.size + 1 < _ by omega)).trans x_11; have qa12 := (hbq.cell (p := ⟨w.heap.size + 1, 1, none⟩) (show w.heap.size + 1 < _ by omega)).trans x_12; have qa13 := (hbq.cell (p := ⟨w.heap.size + 1, 2, none⟩) (show w.heap.size + 1 < _ by omega)).trans x_13; have qa14 := (hbq.cell (p := ⟨w.heap.size + 1, 3, none⟩) (show w.heap.size + 1 < _ by omega)).trans x_14; have qa15 := (hbq.cell (p := ⟨w.heap.size + 1, 4, none⟩) (show w.heap.size + 1 < _ by omega)).trans x_15; have qa16 := (hbq.cell (p := ⟨w.heap.size + 1, 5, none⟩) (show w.heap.size + 1 < _ by omega)).trans x_16; have qa17 := (hbq.cell (p := ⟨w.heap.size + 1, 6, none⟩) (show w.heap.size + 1 < _ by omega)).trans x_17; have qa18 := (hbq.cell (p := ⟨w.heap.size + 1, 7, none⟩) (show w.heap.size + 1 < _ by omega)).trans x_18; have qa19 := (hbq.cell (p := ⟨w.heap.size + 1, 8, none⟩) (show w.heap.size + 1 < _ by omega)).trans x_19; have qa20 := (hbq.cell (p := ⟨w.heap.size + 1, 9, none⟩) (show w.heap.size + 1 < _ by omega)).trans x_20; have qa21 := (hbq.cell (p := ⟨w.heap.size + 1, 10, none⟩) (show w.heap.size + 1 < _ by omega)).trans x_21) | (go_at_call 11; refine (eqAcct_any _ _ (.slice AH_8 hs1.length cH_8) (.slice AC_8 cs1.length cC_8) (.slice AS_8 ss1.length cS_8) (.slice AL_8 sl1.length cL_8) (.slice AHq hs1.length cHq) (.slice ACq cs1.length cCq) (.slice ASq ss1.length cSq) (.slice ALq sl1.length cLq) (id1, lm1, ps1, mo1, su1, hs1, (sp1, hd1, cs1, ss1), sl1) w113 HS1.out (Rep.below (R := AcctR) (Rep.below (R := AcctR) H5.out.rd hD (by omega)) hbq (by omega)) huq.rd (by omega) (by omega)).mono ?_; rintro e w114 ⟨rfl, hbr⟩; have qb0 := (hbr.cell (p := ⟨w108.heap.size, 0, none⟩) (show w108.heap.size < _ by omega)).trans qa0; have qb1 := (hbr.cell (p := ⟨w108.heap.size, 1, none⟩) (show w108.heap.size < _ by omega)).trans qa1; have qb2 := (hbr.cell (p := ⟨w108.heap.size, 2, none⟩) (show w108.heap.size < _ by omega)).trans qa2; have qb3 := (hbr.cell (p := ⟨w108.heap.size, 3, none⟩) (show w108.heap.size < _ by omega)).trans qa3; have qb4 := (hbr.cell (p := ⟨w108.heap.size, 4, none⟩) (show w108.heap.size < _ by omega)).trans qa4; have qb5 := (hbr.cell (p := ⟨w108.heap.size, 5, none⟩) (show w108.heap.size < _ by omega)).trans qa5; have qb6 := (hbr.cell (p := ⟨w108.heap.size, 6, none⟩) (show w108.heap.size < _ by omega)).trans qa6; have qb7 := (hbr.cell (p := ⟨w108.heap.size, 7, none⟩) (show w108.heap.size < _ by omega)).trans qa7; have qb8 := (hbr.cell (p := ⟨w108.heap.size, 8, none⟩) (show w108.heap.size < _ by omega)).trans qa8; have qb9 := (hbr.cell (p := ⟨w108.heap.size, 9, none⟩) (show w108.heap.size < _ by omega)).trans qa9; have qb10 := (hbr.cell (p := ⟨w108.heap.size, 10, none⟩) (show w108.heap.size < _ by omega)).trans qa10; have qb11 := (hbr.cell (p := ⟨w.heap.size + 1, 0, none⟩) (show w.heap.size + 1 < _ by omega)).trans qa11; have qb12 := (hbr.cell (p := ⟨w.heap.size + 1, 1, none⟩) (show w.heap.size + 1 < _ by omega)).trans qa12; have qb13 := (hbr.cell (p := ⟨w.heap.size + 1, 2, none⟩) (show w.heap.size + 1 < _ by omega)).trans qa13; have qb14 := (hbr.cell (p := ⟨w.heap.size + 1, 3, none⟩) (show w.heap.size + 1 < _ by omega)).trans qa14; have qb15 := (hbr.cell (p := ⟨w.heap.size + 1, 4, none⟩) (show w.heap.size + 1 < _ by omega)).trans qa15; have qb16 := (hbr.cell (p := ⟨w.heap.size + 1, 5, none⟩) (show w.heap.size + 1 < _ by omega)).trans qa16; have qb17 := (hbr.cell (p := ⟨w.heap.size + 1, 6, none⟩) (show w.heap.size + 1 < _ by omega)).trans qa17; have qb18 := (hbr.cell (p := ⟨w.heap.size + 1, 7, none⟩) (show w.heap.size + 1 < _ by omega)).trans qa18; have qb19 := (hbr.cell (p := ⟨w.heap.size + 1, 8, none⟩) (show w.heap.size + 1 < _ by omega)).trans qa19; have qb20 := (hbr.cell (p := ⟨w.heap.size + 1, 9, none⟩) (show w.heap.size + 1 < _ by omega)).trans qa20; have qb21 := (hbr.cell (p := ⟨w.heap.size + 1, 10, none⟩) (show w.heap.size + 1 < _ by omega)).trans qa21) | fail)
  have hb14 : Below w112.heap.size w112 w114 := (hD.trans (hbq.mono (show w112.heap.size ≤ _ by omega))).trans (hbr.mono (show w112.heap.size ≤ _ by omega))
  have hB14 := hB12.trans (hb14.mono (show w.heap.size + 2 ≤ _ by omega))
  have zz114 : w112.heap.size ≤ w114.heap.size := hb14.size
  clear hbq hbr huq qa0 qb0 qa1 qb1 qa2 qb2 qa3 qb3 qa4 qb4 qa5 qb5 qa6 qb6 qa7 qb7 qa8 qb8 qa9 qb9 qa10 qb10 qa11 qb11 qa12 qb12 qa13 qb13 qa14 qb14 qa15 qb15 qa16 qb16 qa17 qb17 qa18 qb18 qa19 qb19 qa20 qb20 qa21 qb21 hD zD
  replace HX0 := Lib.hid (Rep.below (R := AcctR) HX0.out hb14 (by omega))
  replace HX1 := Lib.hid (Rep.below (R := AcctR) HX1.out hb14 (by omega))
  replace H4 := Lib.hid (H4.out.below hb14 (by omega))
  replace X4 := Lib.hid ((hb14.block _ (by omega)).trans X4.out)
  replace H5 := Lib.hid (H5.out.below hb14 (by omega))
  replace X5 := Lib.hid ((hb14.block _ (by omega)).trans X5.out)
  clear x_0 x_1 x_2 x_3 x_4 x_5 x_6 x_7 x_8 x_9 x_10 x_11 x_12 x_13 x_14 x_15 x_16 x_17 x_18 x_19 x_20 x_21
  obtain ⟨x_0, x_1, x_2, x_3, x_4, x_5, x_6, x_7, x_8, x_9, x_10, x_11, x_12, x_13, x_14, x_15, x_16, x_17, x_18, x_19, x_20, x_21⟩ := HX.out w114 hB14
  clear X4c0 X4c1 X4c2 X4c3 X4c4 X4c5 X4c6 X4c7 X4c8 X4c9 X4c10
  clear X5c0 X5c1 X5c2 X5c3 X5c4 X5c5 X5c6 X5c7 X5c8 X5c9 X5c10
  have X4c0 := cell_of_row _ _ 0 _ _ (0, 0) X4.out
  have X4c1 := cell_of_row _ _ 1 _ _ (0, 0) X4.out
  have X4c2 := cell_of_row _ _ 2 _ _ (0, 0) X4.out
  have X4c3 := cell_of_row _ _ 3 _ _ (0, 0) X4.out
  have X4c4 := cell_of_row _ _ 4 _ _ (0, 0) X4.out
  have X4c5 := cell_of_row _ _ 5 _ _ (0, 0) X4.out
  have X4c6 := cell_of_row _ _ 6 _ _ (0, 0) X4.out
  have X4c7 := cell_of_row _ _ 7 _ _ (0, 0) X4.out
  have X4c8 := cell_of_row _ _ 8 _ _ (0, 0) X4.out
  have X4c9 := cell_of_row _ _ 9 _ _ (0, 0) X4.out
  have X4c10 := cell_of_row _ _ 10 _ _ (0, 0) X4.out
  simp only [List.getElem?_toArray, List.getElem?_cons_zero, List.getElem?_cons_succ] at X4c0 X4c1 X4c2 X4c3 X4c4 X4c5 X4c6 X4c7 X4c8 X4c9 X4c10
  have X5c0 := cell_of_row _ _ 0 _ _ (0, 0) X5.out
  have X5c1 := cell_of_row _ _ 1 _ _ (0, 0) X5.out
  have X5c2 := cell_of_row _ _ 2 _ _ (0, 0) X5.out
  have X5c3 := cell_of_row _ _ 3 _ _ (0, 0) X5.out
  have X5c4 := cell_of_row _ _ 4 _ _ (0, 0) X5.out
  have X5c5 := cell_of_row _ _ 5 _ _ (0, 0) X5.out
  have X5c6 := cell_of_row _ _ 6 _ _ (0, 0) X5.out
  have X5c7 := cell_of_row _ _ 7 _ _ (0, 0) X5.out
  have X5c8 := cell_of_row _ _ 8 _ _ (0, 0) X5.out
  have X5c9 := cell_of_row _ _ 9 _ _ (0, 0) X5.out
  have X5c10 := cell_of_row _ _ 10 _ _ (0, 0) X5.out
  simp only [List.getElem?_toArray, List.getElem?_cons_zero, List.getElem?_cons_succ] at X5c0 X5c1 X5c2 X5c3 X5c4 X5c5 X5c6 X5c7 X5c8 X5c9 X5c10
  go_wp2
  go_ret
  exact ⟨rfl, (HB0.out.trans (hB14.mono (by first | omega | (simp <;> omega))))⟩


set_option maxRecDepth 100000 in
theorem laidOut : laidOutB Try.prog = true := by kernel_rfl
set_option maxRecDepth 100000 in
theorem rowed : allRowed Try.prog Try.f4.params.toList = true := by kernel_rfl
set_option maxRecDepth 100000 in
theorem resT : Try.f4.resultTypes = #[4] := by kernel_rfl
set_option maxRecDepth 100000 in
theorem lifted (os : Os) (started : os.Started) (H : Type) (enc : TypeId × Value → H) :
    ReturnsInHanded {} Try.checked os 4 .any (Rows.fnExactAcctSameSpec.pre6 enc Try.prog Try.f4 Rows.fnExactAcctSameRow.domain false) (Rows.fnExactAcctSameSpec.post enc Try.prog Try.f4 false true false false) := by
  refine returnsInHanded_of_change (C := Try.checked) own started (by kernel_rfl) Try.func4
    (ChangeSpec.witness6 (enc := enc) (C := Try.checked) false ⟨#[], #[.agg #[.string ByteArray.empty, .int .i64 0, .int .i64 0, .int .i64 0, .int .i64 0, .slice none 0 0, .int .i64 0, .int .i64 0, .slice none 0 0, .slice none 0 0, .slice none 0 0], .agg #[.string ByteArray.empty, .int .i64 0, .int .i64 0, .int .i64 0, .int .i64 0, .slice none 0 0, .int .i64 0, .int .i64 0, .slice none 0 0, .slice none 0 0, .slice none 0 0]], []⟩ 8 (by kernel_rfl) (by kernel_rfl) (by kernel_rfl) (by kernel_rfl)) ?_
  intro W base args ds gs before hval0 hW hcnd _
  have hval : ∀ (j : Nat) t v, Try.f4.params[j]? = some t → args[j]? = some v → Value.okWide Try.prog W .any base t v := hval0
  have hW' := hW
  obtain ⟨p, q, hA0, hV, rfl, hfz, hnd⟩ := hW
  have hA : DataW.TrodAll enc Try.prog W 0 (fun _ => true) true Try.f4.params.toList args.toList ds p := hA0
  rw [Try.params4] at hA hval
  obtain ⟨v0, vs0, d0, ds0, p0, q0, hargs, rfl, rfl, h0, r0⟩ := trodAll_cons hA
  obtain ⟨v1, vs1, d1, ds1, p1, q1, rfl, rfl, rfl, h1, r1⟩ := trodAll_cons r0
  obtain ⟨rfl, rfl, rfl⟩ := trodAll_nil r1
  obtain rfl : args = #[v0, v1] := by cases args; simp_all
  obtain ⟨rfl, rfl⟩ := trodVars_none hV
  obtain ⟨a0, vh0, vc0, vs0, vl0, rfl, w0, z0⟩ := open_acct (hval 0 29 v0 rfl rfl) h0
  obtain ⟨a1, vh1, vc1, vs1, vl1, rfl, w1, z1⟩ := open_acct (hval 1 29 v1 rfl rfl) h1
  clear hA0 hval0
  refine (walk W  _ _ _ _ _ _ _ _ _ _ w0 z0 w1 z1).mono fun e W' ⟨he, hg⟩ => ?_
  subst he
  exact ⟨_, rfl, post_true laidOut rowed hW' rfl resT Try.underlying4 hg (pv := []) rfl⟩

set_option maxRecDepth 100000 in
theorem over : Rows.fnExactAcctSameRow.holds Try.pinned (OpenSpec.ofChange Rows.fnExactAcctSameSpec) :=
  OpenClaim.holds_of_wide 4 Try.f4 rfl rfl rfl rfl rfl rfl rfl ⟨rfl, rfl, rfl, rfl, rfl⟩ rfl rfl rfl rfl rfl (by kernel_rfl) Try.func4 (by kernel_rfl)
    (of_decide_eq_true (by kernel_rfl)) (by unfold Func.isWrapper; first | (rw [if_pos (by decide +kernel)]; kernel_rfl) | (rw [if_neg (by decide +kernel)]; exact ⟨rfl, rfl⟩))
    (fun os started H enc _ => lifted os started H enc)

set_option maxRecDepth 100000 in
theorem proved : Rows.FnExactAcctSameSaid :=
  over
#print axioms proved
end Go.Proofs.Ytpeeagkfhdeagaa.fnExactAcctSame
