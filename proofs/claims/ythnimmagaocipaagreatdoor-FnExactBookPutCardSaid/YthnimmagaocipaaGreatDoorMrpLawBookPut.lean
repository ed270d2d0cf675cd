/- FnExactBookPut: for every argument the law answers true: the program's function returns what the reference returns; the listed package variables hold what the program's text lays (tied). -/
import Derived.Test.YthnimmagaocipaaGreatDoorMrp1
import Derived.Test.YthnimmagaocipaaGreatDoorMrp2
import Derived.Test.YthnimmagaocipaaGreatDoorCards
import Derived.Test.YthnimmagaocipaaGreatDoorTie
import Derived.Stop.LaidErr
import Derived.LaidMore
import Derived.Stop.Joined
import Derived.SevenTiedAt
import Derived.WalkSmall
import Derived.LaidHandle
import Derived.Test.YthnimmagaocipaaGreatDoorMrp5
import Derived.Test.YthnimmagaocipaaGreatDoorMrp4
import Derived.Test.YthnimmagaocipaaGreatDoorMrp6
import Derived.Test.YthnimmagaocipaaGreatDoorMrp3
import Derived.Deep.RegionHeld3
import Derived.Deep.DeepCutAuto
namespace Go.Proofs.YthnimmagaocipaaGreatDoor.fnExactBookPut
open Go.ChangeShapes Go.WideShapes Go.ChangeAt Go.RowKit
open Go.WideMaps Go.WideElems
open Go.ChangeMaps (open_string shut_string)
set_option linter.unusedVariables false

set_option maxRecDepth 100000 in
theorem own : ownKnob Tryz.prog.godebug = none := by kernel_rfl

set_option maxRecDepth 100000 in
set_option maxHeartbeats 8000000 in
theorem walk (w : World) (p0 : Addr) (hc0 : w.cell? ⟨0, 0, none⟩ = some (.iface 178 (.pointer (some p0)))) (hh : w.cell? ⟨1, 0, none⟩ = some (.iface 165 (.agg #[.pointer (some ⟨2, 142, none⟩)]))) (l0 : BookD) (vb0 : Value) (a1 : AcctD) (vh1 vc1 vs1 vl1 : Value) (w0 : AcctsR.rd w.heap.size w [vb0] l0) (z0 : bookBig l0) (w1 : AcctR.rd w.heap.size w (aCells a1 vh1 vc1 vs1 vl1) a1) (z1 : acctBig a1) :
    Calls Tryz.prog 5 #[.agg #[vb0], .agg #[.string (aId a1), .int .i64 (aLim a1), .int .i64 (aPos a1), .int .i64 (aMost a1), .int .i64 (aSum a1), vh1, .int .i64 (aR a1).1, .int .i64 (aR a1).2.1, vc1, vs1, vl1]] w fun e w' => e = .returned (.bool true) ∧ Below w.heap.size w w' := by
  obtain ⟨AB0, cB0, rfl, -⟩ := Rep.slice_form w0
  have HX0 := Lib.hid w0
  have HY0 := Lib.hid z0
  clear w0 z0
  obtain ⟨id1, lm1, ps1, mo1, su1, hs1, ⟨sp1, hd1, cs1, ss1⟩, sl1⟩ := a1
  obtain ⟨xh, xc, xs, xl, hcs, q1, q2, q3, q4⟩ := acct_rd w1
  simp only [aCells, List.cons.injEq, and_true, true_and] at hcs
  obtain ⟨rfl, rfl, rfl, rfl⟩ := hcs
  simp only [aH, aS] at q1 q2 q3 q4
  obtain ⟨AH1, cH1, rfl, -⟩ := Rep.slice_form q1
  obtain ⟨AC1, cC1, rfl, -⟩ := q2.form
  obtain ⟨AS1, cS1, rfl, -⟩ := q3.form
  obtain ⟨AL1, cL1, rfl, -⟩ := Rep.slice_form q4
  have HX1 := Lib.hid w1
  have HY1 := Lib.hid z1
  clear w1 z1 q1 q2 q3 q4
  simp only [aId, aLim, aPos, aMost, aSum]
  have HB0 : Hid (Below w.heap.size w ((w.alloc (.cells #[.slice AB0 l0.length cB0] 24)).alloc (.cells #[.string id1, .int .i64 lm1, .int .i64 ps1, .int .i64 mo1, .int .i64 su1, .slice AH1 hs1.length cH1, .int .i64 sp1, .int .i64 hd1, .slice AC1 cs1.length cC1, .slice AS1 ss1.length cS1, .slice AL1 sl1.length cL1] 42))) := Lib.hid (((Below.refl w.heap.size w).alloc (Nat.le_refl _) (.cells #[.slice AB0 l0.length cB0] 24)).alloc (by simp <;> omega) (.cells #[.string id1, .int .i64 lm1, .int .i64 ps1, .int .i64 mo1, .int .i64 su1, .slice AH1 hs1.length cH1, .int .i64 sp1, .int .i64 hd1, .slice AC1 cs1.length cC1, .slice AS1 ss1.length cS1, .slice AL1 sl1.length cL1] 42))
  have HX : Hid (∀ wr, Below (w.heap.size + 2) ((w.alloc (.cells #[.slice AB0 l0.length cB0] 24)).alloc (.cells #[.string id1, .int .i64 lm1, .int .i64 ps1, .int .i64 mo1, .int .i64 su1, .slice AH1 hs1.length cH1, .int .i64 sp1, .int .i64 hd1, .slice AC1 cs1.length cC1, .slice AS1 ss1.length cS1, .slice AL1 sl1.length cL1] 42)) wr → wr.cell? ⟨w.heap.size, 0, none⟩ = some (.slice AB0 l0.length cB0) ∧ wr.cell? ⟨w.heap.size + 1, 0, none⟩ = some (.string id1) ∧ wr.cell? ⟨w.heap.size + 1, 1, none⟩ = some (.int .i64 lm1) ∧ wr.cell? ⟨w.heap.size + 1, 2, none⟩ = some (.int .i64 ps1) ∧ wr.cell? ⟨w.heap.size + 1, 3, none⟩ = some (.int .i64 mo1) ∧ wr.cell? ⟨w.heap.size + 1, 4, none⟩ = some (.int .i64 su1) ∧ wr.cell? ⟨w.heap.size + 1, 5, none⟩ = some (.slice AH1 hs1.length cH1) ∧ wr.cell? ⟨w.heap.size + 1, 6, none⟩ = some (.int .i64 sp1) ∧ wr.cell? ⟨w.heap.size + 1, 7, none⟩ = some (.int .i64 hd1) ∧ wr.cell? ⟨w.heap.size + 1, 8, none⟩ = some (.slice AC1 cs1.length cC1) ∧ wr.cell? ⟨w.heap.size + 1, 9, none⟩ = some (.slice AS1 ss1.length cS1) ∧ wr.cell? ⟨w.heap.size + 1, 10, none⟩ = some (.slice AL1 sl1.length cL1)) := Lib.hid fun wr hw => ⟨(hw.cell (p := ⟨w.heap.size, 0, none⟩) (show w.heap.size < _ by omega)).trans (by simp), (hw.cell (p := ⟨w.heap.size + 1, 0, none⟩) (show w.heap.size + 1 < _ by omega)).trans (by simp), (hw.cell (p := ⟨w.heap.size + 1, 1, none⟩) (show w.heap.size + 1 < _ by omega)).trans (by simp), (hw.cell (p := ⟨w.heap.size + 1, 2, none⟩) (show w.heap.size + 1 < _ by omega)).trans (by simp), (hw.cell (p := ⟨w.heap.size + 1, 3, none⟩) (show w.heap.size + 1 < _ by omega)).trans (by simp), (hw.cell (p := ⟨w.heap.size + 1, 4, none⟩) (show w.heap.size + 1 < _ by omega)).trans (by simp), (hw.cell (p := ⟨w.heap.size + 1, 5, none⟩) (show w.heap.size + 1 < _ by omega)).trans (by simp), (hw.cell (p := ⟨w.heap.size + 1, 6, none⟩) (show w.heap.size + 1 < _ by omega)).trans (by simp), (hw.cell (p := ⟨w.heap.size + 1, 7, none⟩) (show w.heap.size + 1 < _ by omega)).trans (by simp), (hw.cell (p := ⟨w.heap.size + 1, 8, none⟩) (show w.heap.size + 1 < _ by omega)).trans (by simp), (hw.cell (p := ⟨w.heap.size + 1, 9, none⟩) (show w.heap.size + 1 < _ by omega)).trans (by simp), (hw.cell (p := ⟨w.heap.size + 1, 10, none⟩) (show w.heap.size + 1 < _ by omega)).trans (by simp)⟩
  have HHD : Hid (Handle w) := Lib.hid hh
  clear hh
  go_enter Tryz.func5, Tryz.ntmps5
  go_wp2_with fail
  refine (szBook_any w.heap.size _ l0 1048576 ((w.alloc (.cells #[.slice AB0 l0.length cB0] 24)).alloc (.cells #[.string id1, .int .i64 lm1, .int .i64 ps1, .int .i64 mo1, .int .i64 su1, .slice AH1 hs1.length cH1, .int .i64 sp1, .int .i64 hd1, .slice AC1 cs1.length cC1, .slice AS1 ss1.length cS1, .slice AL1 sl1.length cL1] 42)) HY0.out (Rep.below (R := AcctsR) HX0.out HB0.out (Nat.le_refl _)) (by first | omega | (simp <;> omega)) (by omega) (by omega)).mono ?_
  rintro e w101 ⟨r0, rfl, hr0, hb1⟩
  have zz101 : w.heap.size + 2 ≤ w101.heap.size := by have := hb1.size; simp at this; omega
  have hB1 : Below (w.heap.size + 2) ((w.alloc (.cells #[.slice AB0 l0.length cB0] 24)).alloc (.cells #[.string id1, .int .i64 lm1, .int .i64 ps1, .int .i64 mo1, .int .i64 su1, .slice AH1 hs1.length cH1, .int .i64 sp1, .int .i64 hd1, .slice AC1 cs1.length cC1, .slice AS1 ss1.length cS1, .slice AL1 sl1.length cL1] 42)) w101 := hb1.mono (by simp <;> omega)
  have hw1 : Below w.heap.size w w101 := HB0.out.trans (hb1.mono (by simp <;> omega))
  replace HX0 := Lib.hid (Rep.below (R := AcctsR) HX0.out hw1 (Nat.le_refl _))
  replace HX1 := Lib.hid (Rep.below (R := AcctR) HX1.out hw1 (Nat.le_refl _))
  obtain ⟨x_0, x_1, x_2, x_3, x_4, x_5, x_6, x_7, x_8, x_9, x_10, x_11⟩ := HX.out w101 hB1
  rcases hr0 with rfl | ⟨hr0, hp0⟩
  · go_wp2
    go_ret
    exact ⟨rfl, (HB0.out.trans (hB1.mono (by first | omega | (simp <;> omega))))⟩
  have hxz0 : bookSz l0 ≤ 1048576 := by omega
  have HS0 := Lib.hid (book_small hxz0)
  have hq0 : r0 ≤ 1048576 := by omega
  have HR0 := Lib.hid hr0
  have HXZ0 := Lib.hid hxz0
  clear hr0 hxz0
  go_wp2_with fail
  refine (szAcct_any w.heap.size (.slice AH1 hs1.length cH1) (.slice AC1 cs1.length cC1) (.slice AS1 ss1.length cS1) (.slice AL1 sl1.length cL1) (id1, lm1, ps1, mo1, su1, hs1, (sp1, hd1, cs1, ss1), sl1) r0 w101 HY1.out HX1.out (by first | omega | (simp <;> omega)) (by omega) (by omega)).mono ?_
  rintro e w102 ⟨r1, rfl, hr1, hb2⟩
  have zz102 : w101.heap.size ≤ w102.heap.size := hb2.size
  have hB2 := hB1.trans (hb2.mono (show w.heap.size + 2 ≤ _ by omega))
  replace HX0 := Lib.hid (Rep.below (R := AcctsR) HX0.out hb2 (by omega))
  replace HX1 := Lib.hid (Rep.below (R := AcctR) HX1.out hb2 (by omega))
  clear x_0 x_1 x_2 x_3 x_4 x_5 x_6 x_7 x_8 x_9 x_10 x_11
  obtain ⟨x_0, x_1, x_2, x_3, x_4, x_5, x_6, x_7, x_8, x_9, x_10, x_11⟩ := HX.out w102 hB2
  rcases hr1 with rfl | ⟨hr1, hp1⟩
  · go_wp2
    go_ret
    exact ⟨rfl, (HB0.out.trans (hB2.mono (by first | omega | (simp <;> omega))))⟩
  have hxz1 : acctSz (id1, lm1, ps1, mo1, su1, hs1, (sp1, hd1, cs1, ss1), sl1) ≤ 1048576 := by omega
  have HS1 := Lib.hid (acct_small hxz1)
  have hq1 : r1 ≤ 1048576 := by omega
  have HR1 := Lib.hid hr1
  have HXZ1 := Lib.hid hxz1
  clear hr1 hxz1
  obtain ⟨PR, hpr⟩ : ∃ PR, PR = putBook l0 (id1, lm1, ps1, mo1, su1, hs1, (sp1, hd1, cs1, ss1), sl1) := ⟨_, rfl⟩
  have HPT := Lib.hid hpr
  have hsp : bookSz PR.1 ≤ 1048576 := by have h1 := putBook_sz l0 (id1, lm1, ps1, mo1, su1, hs1, (sp1, hd1, cs1, ss1), sl1); rw [← hpr] at h1; have h2 := HR0.out; have h3 := HR1.out; omega
  have HSP : Hid (bookSz PR.1 ≤ 1048576) := Lib.hid hsp
  clear hpr hsp
  have HS9 := Lib.hid (book_small HSP.out)
  have HK9 : Hid (kBk PR.1 1 ≤ 100000000) := Lib.hid (kBk_fit HSP.out)
  have HK0 : Hid (kBk l0 1 ≤ 20000000) := Lib.hid (by have := kBk_most l0 1; have := HXZ0.out; omega)
  have HK1 : Hid (∀ k, k ≤ 20000000 → kAcct (id1, lm1, ps1, mo1, su1, hs1, (sp1, hd1, cs1, ss1), sl1) k ≤ 100000000) := Lib.hid (fun k hk => by have h1 := (kAcct_el (id1, lm1, ps1, mo1, su1, hs1, (sp1, hd1, cs1, ss1), sl1) k).2; have h2 := kEl_fit (id1, lm1, ps1, mo1, su1, hs1, (sp1, hd1, cs1, ss1), sl1) k; have := HXZ1.out; omega)
  have hD : Below w102.heap.size w102 w102.drew := (Below.refl _ _).drew
  have zD : w102.drew.heap.size = w102.heap.size := rfl
  have hD1 : ∀ o, Below w102.heap.size w102 (w102.alloc o).drew := fun o => ((Below.refl _ _).alloc (Nat.le_refl _) o).drew
  have HT0 := Lib.hid (fun V (hV : Below w102.heap.size w102 V) => toBook_any w.heap.size _ l0 V HS0.out (Rep.below (R := AcctsR) HX0.out hV (by omega)) (Nat.le_trans (by omega) hV.size))
  have HT1 := Lib.hid (fun V (hV : Below w102.heap.size w102 V) => toAcct_any w.heap.size (.slice AH1 hs1.length cH1) (.slice AC1 cs1.length cC1) (.slice AS1 ss1.length cS1) (.slice AL1 sl1.length cL1) (id1, lm1, ps1, mo1, su1, hs1, (sp1, hd1, cs1, ss1), sl1) V HS1.out (Rep.below (R := AcctR) HX1.out hV (by omega)) (Nat.le_trans (by omega) hV.size))
  simp only [aId, aLim, aPos, aMost, aSum] at HT1
  have yD0 : w.heap.size < w102.heap.size := by omega
  have yD1 : w.heap.size + 1 < w102.heap.size := by omega
  go_upto_region 8 with fail
  go_cut [6, 7] (fun gv bv wx => putIn w102 PR.1 PR.2 gv bv wx)
  case first =>
    go_region_held3 (fun V => V.cell? ⟨w.heap.size, 0, none⟩ = some (.slice AB0 l0.length cB0) ∧ V.cell? ⟨w.heap.size + 1, 0, none⟩ = some (.string id1) ∧ V.cell? ⟨w.heap.size + 1, 1, none⟩ = some (.int .i64 lm1) ∧ V.cell? ⟨w.heap.size + 1, 2, none⟩ = some (.int .i64 ps1) ∧ V.cell? ⟨w.heap.size + 1, 3, none⟩ = some (.int .i64 mo1) ∧ V.cell? ⟨w.heap.size + 1, 4, none⟩ = some (.int .i64 su1) ∧ V.cell? ⟨w.heap.size + 1, 5, none⟩ = some (.slice AH1 hs1.length cH1) ∧ V.cell? ⟨w.heap.size + 1, 6, none⟩ = some (.int .i64 sp1) ∧ V.cell? ⟨w.heap.size + 1, 7, none⟩ = some (.int .i64 hd1) ∧ V.cell? ⟨w.heap.size + 1, 8, none⟩ = some (.slice AC1 cs1.length cC1) ∧ V.cell? ⟨w.heap.size + 1, 9, none⟩ = some (.slice AS1 ss1.length cS1) ∧ V.cell? ⟨w.heap.size + 1, 10, none⟩ = some (.slice AL1 sl1.length cL1)) (first | (repeat' apply And.intro) <;> assumption | (exact HX.out _ ((hB2.trans (hC.mono (by omega))).setCell (p := ⟨_, 0, none⟩) (by first | omega | (simp <;> omega)) _)) | go_keep) (first | (go_at_call 8; (with_reducible refine (HT0.out _ (by first | exact hD | exact hD1 _)).mono ?_); rintro e a ⟨uA, rfl, huA, hbA⟩; obtain ⟨AA, cA, rfl, -⟩ := Rep.slice_form (AcctsIv.rd huA); have zA := hbA.size; have hA : Below w102.heap.size w102 a := (by first | exact hD.trans (hbA.mono (by omega)) | exact (hD1 _).trans (hbA.mono (by simp <;> omega))); have hA1 := (fun o => hA.alloc hA.size o); have zWa : w102.heap.size ≤ a.heap.size := hA.size; (try have zWA : w102.heap.size < a.heap.size := (by have := hbA.size; simp at this; omega)); have hxa := HX.out a (hB2.trans (hA.mono (by omega))); obtain ⟨x_0, x_1, x_2, x_3, x_4, x_5, x_6, x_7, x_8, x_9, x_10, x_11⟩ := hxa; (try have bPa : bk a w102.heap.size 29 [.slice none 0 0] := bk.below (w := (w102.alloc (.cells #[.slice none 0 0] 29)).drew) (show bk (w102.alloc (.cells #[.slice none 0 0] 29)).drew w102.heap.size 29 [.slice none 0 0] from bk.new w102 _ [.slice none 0 0]) hbA (by simp)); (try (have cPa := bPa.cell 0; have fPa := bPa.frozen 0; simp only [List.getElem?_cons_zero] at cPa))) | (go_at_call 17; (with_reducible refine (HT1.out _ (by first | exact hA | exact hA1 _)).mono ?_); rintro e b ⟨uhB, ucB, usB, ulB, rfl, huB, hbB⟩; obtain ⟨xh, xc, xs, xl, hcs, q1, q2, q3, q4⟩ := acct_rd huB.rd; simp only [aCells, List.cons.injEq, and_true, true_and] at hcs; obtain ⟨rfl, rfl, rfl, rfl⟩ := hcs; simp only [aH, aS] at q1 q2 q3 q4; obtain ⟨AHB, cHB, rfl, -⟩ := Rep.slice_form q1; obtain ⟨ACB, cCB, rfl, -⟩ := q2.form; obtain ⟨ASB, cSB, rfl, -⟩ := q3.form; obtain ⟨ALB, cLB, rfl, -⟩ := Rep.slice_form q4; clear q1 q2 q3 q4; have zB := hbB.size; have hB : Below w102.heap.size w102 b := (by first | exact hA.trans (hbB.mono (by omega)) | exact (hA1 _).trans (hbB.mono (by simp <;> omega))); have hB1 := (fun o => hB.alloc hB.size o); have hab : Below a.heap.size a b := (by first | exact hbB | exact ((Below.refl a.heap.size a).alloc (Nat.le_refl _) _).trans (hbB.mono (by simp))); have zab := hab.size; have zWb : w102.heap.size ≤ b.heap.size := hB.size; (try have zWB : a.heap.size < b.heap.size := (by have := hbB.size; simp at this; omega)); have hxb := HX.out b (hB2.trans (hB.mono (by omega))); obtain ⟨x_0, x_1, x_2, x_3, x_4, x_5, x_6, x_7, x_8, x_9, x_10, x_11⟩ := hxb; (try have bPb : bk b w102.heap.size 29 [.slice none 0 0] := bPa.below hbB (by first | omega | (simp <;> omega))); (try have bQb : bk b a.heap.size 29 [.slice none 0 0] := bk.below (w := a.alloc (.cells #[.slice none 0 0] 29)) (bk.new a _ [.slice none 0 0]) hbB (by simp)); (try (have cPb := bPb.cell 0; have fPb := bPb.frozen 0; simp only [List.getElem?_cons_zero] at cPb)); (try (have cQb := bQb.cell 0; have fQb := bQb.frozen 0; simp only [List.getElem?_cons_zero] at cQb)); have HC := (fun V (hV : Below b.heap.size b V) => specBookPut_any a.heap.size b.heap.size _ (.slice AHB hs1.length cHB) (.slice ACB cs1.length cCB) (.slice ASB ss1.length cSB) (.slice ALB sl1.length cLB) l0 (id1, lm1, ps1, mo1, su1, hs1, (sp1, hd1, cs1, ss1), sl1) V HS0.out HY0.out.2 HS1.out HY1.out (Rep.below (R := AcctsR) (AcctsIv.rd huA) (hab.trans (hV.mono zab)) (Nat.le_refl _)) (Nat.le_trans zab hV.size) (Rep.below (R := AcctR) huB.rd hV (Nat.le_refl _)) hV.size); simp only [aId, aLim, aPos, aMost, aSum] at HC; rw [← HPT.out] at HC) | (go_at_call 16; (with_reducible refine (HC _ (by first | exact Below.refl _ _ | exact (Below.refl _ _).alloc (Nat.le_refl _) _)).mono ?_); rintro e c ⟨uC, rfl, hmC, hbC⟩; obtain ⟨AC9, cC9, rfl, -⟩ := Rep.slice_form (Rep.mine.rd hmC); have zC := hbC.size; have hC : Below w102.heap.size w102 c := (by first | exact hB.trans (hbC.mono (by omega)) | exact (hB1 _).trans (hbC.mono (by simp <;> omega))); have zWc : w102.heap.size ≤ c.heap.size := hC.size; have hbc : Below b.heap.size b c := (by first | exact hbC | exact ((Below.refl b.heap.size b).alloc (Nat.le_refl _) _).trans (hbC.mono (by simp))); have zbc := hbc.size; (try have zWC : b.heap.size < c.heap.size := (by have := hbC.size; simp at this; omega)); have hxc := HX.out c (hB2.trans (hC.mono (by omega))); obtain ⟨x_0, x_1, x_2, x_3, x_4, x_5, x_6, x_7, x_8, x_9, x_10, x_11⟩ := hxc; (try have bPc : bk c w102.heap.size 29 [.slice none 0 0] := bPb.below hbC (by first | omega | (simp <;> omega))); (try have bQc : bk c a.heap.size 29 [.slice none 0 0] := bQb.below hbC (by first | omega | (simp <;> omega))); (try have bRc : bk c b.heap.size 29 [.slice none 0 0] := bk.below (w := b.alloc (.cells #[.slice none 0 0] 29)) (bk.new b _ [.slice none 0 0]) hbC (by simp)); (try (have cPc := bPc.cell 0; have fPc := bPc.frozen 0; simp only [List.getElem?_cons_zero] at cPc)); (try (have cQc := bQc.cell 0; have fQc := bQc.frozen 0; simp only [List.getElem?_cons_zero] at cQc)); (try (have cRc := bRc.cell 0; have fRc := bRc.frozen 0; simp only [List.getElem?_cons_zero] at cRc))) | fail)
    all_goals (go_wp2; go_meet)
    all_goals first
      | exact putIn.mk0 hmC hC
      | exact putIn.mk1 hmC bPc (by first | omega | (simp <;> omega)) (by omega) hC
      | exact putIn.mk1 hmC bQc (by first | omega | (simp <;> omega)) (by omega) hC
      | exact putIn.mk1 hmC bRc (by first | omega | (simp <;> omega)) (by omega) hC
      | (trace_state; fail)
  obtain ⟨gX6, AX6, cX6, rfl, rfl, hbkX6, hrdX6, hbl, hleX6⟩ := hcut
  obtain ⟨w103, hw103⟩ : ∃ w103, w103 = wc := ⟨_, rfl⟩
  subst hw103
  have zz103 : w102.heap.size ≤ w103.heap.size := hbl.size
  have hB3 := hB2.trans (hbl.mono (show w.heap.size + 2 ≤ _ by omega))
  replace HX0 := Lib.hid (Rep.below (R := AcctsR) HX0.out hbl (by omega))
  replace HX1 := Lib.hid (Rep.below (R := AcctR) HX1.out hbl (by omega))
  clear x_0 x_1 x_2 x_3 x_4 x_5 x_6 x_7 x_8 x_9 x_10 x_11
  obtain ⟨x_0, x_1, x_2, x_3, x_4, x_5, x_6, x_7, x_8, x_9, x_10, x_11⟩ := HX.out w103 hB3
  have zgX6 := hbkX6.lt
  have X6 := Lib.hid hbkX6
  have W6 := Lib.hid hrdX6
  clear hbkX6 hrdX6 hbl hD hD1 zD HT0 HT1
  have X6c0 := cell_of_row _ _ 0 _ _ (0, 0) X6.out
  simp only [List.getElem?_toArray, List.getElem?_cons_zero] at X6c0
  go_wp2_with fail
  refine (toBook_any w.heap.size _ l0 w103 HS0.out HX0.out (by omega)).mono ?_
  rintro e w104 ⟨u_4, rfl, hu4, hb4⟩
  obtain ⟨A_4, c_4, rfl, -⟩ := Rep.slice_form (AcctsIv.rd hu4)
  have zz104 : w103.heap.size ≤ w104.heap.size := hb4.size
  have hB4 := hB3.trans (hb4.mono (show w.heap.size + 2 ≤ _ by omega))
  replace HX0 := Lib.hid (Rep.below (R := AcctsR) HX0.out hb4 (by omega))
  replace HX1 := Lib.hid (Rep.below (R := AcctR) HX1.out hb4 (by omega))
  replace X6 := Lib.hid ((hb4.block _ (by omega)).trans X6.out)
  replace W6 := Lib.hid (Rep.below (R := AcctsR) W6.out hb4 (by omega))
  clear x_0 x_1 x_2 x_3 x_4 x_5 x_6 x_7 x_8 x_9 x_10 x_11
  obtain ⟨x_0, x_1, x_2, x_3, x_4, x_5, x_6, x_7, x_8, x_9, x_10, x_11⟩ := HX.out w104 hB4
  have H4 := Lib.hid hu4
  clear X6c0
  have X6c0 := cell_of_row _ _ 0 _ _ (0, 0) X6.out
  simp only [List.getElem?_toArray, List.getElem?_cons_zero] at X6c0
  have yy4_0 : w.heap.size < w104.heap.size := by omega
  have yy4_1 : w.heap.size + 1 < w104.heap.size := by omega
  have yy4X6 : gX6 < w104.heap.size := by omega
  go_wp2_with fail
  have hb5 := (Below.refl w104.heap.size w104).alloc (Nat.le_refl _) (.cells #[.slice A_4 l0.length c_4] 29)
  have hX4 := heap_alloc_new w104 (.cells #[.slice A_4 l0.length c_4] 29)
  generalize w104.alloc (.cells #[.slice A_4 l0.length c_4] 29) = w105 at hb5 hX4 ⊢
  have zz105 : w104.heap.size ≤ w105.heap.size := hb5.size
  have zl5 : w104.heap.size < w105.heap.size := lt_of_block hX4
  have hB5 := hB4.trans (hb5.mono (show w.heap.size + 2 ≤ _ by omega))
  replace HX0 := Lib.hid (Rep.below (R := AcctsR) HX0.out hb5 (by omega))
  replace HX1 := Lib.hid (Rep.below (R := AcctR) HX1.out hb5 (by omega))
  replace X6 := Lib.hid ((hb5.block _ (by omega)).trans X6.out)
  replace W6 := Lib.hid (Rep.below (R := AcctsR) W6.out hb5 (by omega))
  replace H4 := Lib.hid (AcctsIv.below H4.out hb5 (by omega))
  have X4 := Lib.hid hX4
  clear hX4
  clear x_0 x_1 x_2 x_3 x_4 x_5 x_6 x_7 x_8 x_9 x_10 x_11
  obtain ⟨x_0, x_1, x_2, x_3, x_4, x_5, x_6, x_7, x_8, x_9, x_10, x_11⟩ := HX.out w105 hB5
  have X4c0 := cell_of_row _ _ 0 _ _ (0, 0) X4.out
  simp only [List.getElem?_toArray, List.getElem?_cons_zero] at X4c0
  go_wp2_with fail
  refine (toAcctI_any w.heap.size (.slice AH1 hs1.length cH1) (.slice AC1 cs1.length cC1) (.slice AS1 ss1.length cS1) (.slice AL1 sl1.length cL1) (id1, lm1, ps1, mo1, su1, hs1, (sp1, hd1, cs1, ss1), sl1) w105 HS1.out HX1.out (by omega)).mono ?_
  rintro e w106 ⟨uh_6, uc_6, us_6, ul_6, rfl, hu6, hb6⟩
  obtain ⟨xh, xc, xs, xl, hcs, q1, q2, q3, q4⟩ := acct_rd hu6.mine.rd
  simp only [aCells, List.cons.injEq, and_true, true_and] at hcs
  obtain ⟨rfl, rfl, rfl, rfl⟩ := hcs
  simp only [aH, aS] at q1 q2 q3 q4
  obtain ⟨AH_6, cH_6, rfl, -⟩ := Rep.slice_form q1
  obtain ⟨AC_6, cC_6, rfl, -⟩ := q2.form
  obtain ⟨AS_6, cS_6, rfl, -⟩ := q3.form
  obtain ⟨AL_6, cL_6, rfl, -⟩ := Rep.slice_form q4
  clear q1 q2 q3 q4
  simp only [aId, aLim, aPos, aMost, aSum]
  have zz106 : w105.heap.size ≤ w106.heap.size := hb6.size
  have hB6 := hB5.trans (hb6.mono (show w.heap.size + 2 ≤ _ by omega))
  replace HX0 := Lib.hid (Rep.below (R := AcctsR) HX0.out hb6 (by omega))
  replace HX1 := Lib.hid (Rep.below (R := AcctR) HX1.out hb6 (by omega))
  replace X6 := Lib.hid ((hb6.block _ (by omega)).trans X6.out)
  replace W6 := Lib.hid (Rep.below (R := AcctsR) W6.out hb6 (by omega))
  replace H4 := Lib.hid (AcctsIv.below H4.out hb6 (by omega))
  replace X4 := Lib.hid ((hb6.block _ (by omega)).trans X4.out)
  clear x_0 x_1 x_2 x_3 x_4 x_5 x_6 x_7 x_8 x_9 x_10 x_11
  obtain ⟨x_0, x_1, x_2, x_3, x_4, x_5, x_6, x_7, x_8, x_9, x_10, x_11⟩ := HX.out w106 hB6
  have H5 := Lib.hid hu6
  clear X6c0
  clear X4c0
  have X6c0 := cell_of_row _ _ 0 _ _ (0, 0) X6.out
  simp only [List.getElem?_toArray, List.getElem?_cons_zero] at X6c0
  have X4c0 := cell_of_row _ _ 0 _ _ (0, 0) X4.out
  simp only [List.getElem?_toArray, List.getElem?_cons_zero] at X4c0
  have yy6_0 : w.heap.size < w106.heap.size := by omega
  have yy6_1 : w.heap.size + 1 < w106.heap.size := by omega
  have yy6X6 : gX6 < w106.heap.size := by omega
  have yy6X4 : w104.heap.size < w106.heap.size := by omega
  go_wp2_with fail
  have hb7 := (Below.refl w106.heap.size w106).alloc (Nat.le_refl _) (.cells #[.string id1, .int .i64 lm1, .int .i64 ps1, .int .i64 mo1, .int .i64 su1, .slice AH_6 hs1.length cH_6, .int .i64 sp1, .int .i64 hd1, .slice AC_6 cs1.length cC_6, .slice AS_6 ss1.length cS_6, .slice AL_6 sl1.length cL_6] 50)
  have hX5 := heap_alloc_new w106 (.cells #[.string id1, .int .i64 lm1, .int .i64 ps1, .int .i64 mo1, .int .i64 su1, .slice AH_6 hs1.length cH_6, .int .i64 sp1, .int .i64 hd1, .slice AC_6 cs1.length cC_6, .slice AS_6 ss1.length cS_6, .slice AL_6 sl1.length cL_6] 50)
  generalize w106.alloc (.cells #[.string id1, .int .i64 lm1, .int .i64 ps1, .int .i64 mo1, .int .i64 su1, .slice AH_6 hs1.length cH_6, .int .i64 sp1, .int .i64 hd1, .slice AC_6 cs1.length cC_6, .slice AS_6 ss1.length cS_6, .slice AL_6 sl1.length cL_6] 50) = w107 at hb7 hX5 ⊢
  have zz107 : w106.heap.size ≤ w107.heap.size := hb7.size
  have zl7 : w106.heap.size < w107.heap.size := lt_of_block hX5
  have hB7 := hB6.trans (hb7.mono (show w.heap.size + 2 ≤ _ by omega))
  replace HX0 := Lib.hid (Rep.below (R := AcctsR) HX0.out hb7 (by omega))
  replace HX1 := Lib.hid (Rep.below (R := AcctR) HX1.out hb7 (by omega))
  replace X6 := Lib.hid ((hb7.block _ (by omega)).trans X6.out)
  replace W6 := Lib.hid (Rep.below (R := AcctsR) W6.out hb7 (by omega))
  replace H4 := Lib.hid (AcctsIv.below H4.out hb7 (by omega))
  replace X4 := Lib.hid ((hb7.block _ (by omega)).trans X4.out)
  replace H5 := Lib.hid (H5.out.below hb7 (by omega))
  have X5 := Lib.hid hX5
  clear hX5
  clear x_0 x_1 x_2 x_3 x_4 x_5 x_6 x_7 x_8 x_9 x_10 x_11
  obtain ⟨x_0, x_1, x_2, x_3, x_4, x_5, x_6, x_7, x_8, x_9, x_10, x_11⟩ := HX.out w107 hB7
  have X5c0 := cell_of_row _ _ 0 _ _ (0, 0) X5.out
  have X5c1 := cell_of_row _ _ 1 _ _ (0, 0) X5.out
  have X5c2 := cell_of_row _ _ 2 _ _ (0, 0) X5.out
  have X5c3 := cell_of_row _ _ 3 _ _ (0, 0) X5.out
  have X5c4 := cell_of_row _ _ 4 _ _ (0, 0) X5.out
  have X5c5 := cell_of_row _ _ 5 _ _ (0, 0) X5.out
  have X5c6 := cell_of_row _ _ 6 _ _ (0, 0) X5.out
  have X5c7 := cell_of_row _ _ 7 _ _ (0, 0) X5.out
  have X5c8 := cell_of_row _ _ 8 _ _ (0, 0) X5.out
  have X5c9 := cell_of_row _ _ 9 _ _ (0, 0) X5.out
  have X5c10 := cell_of_row _ _ 10 _ _ (0, 0) X5.out
  simp only [List.getElem?_toArray, List.getElem?_cons_zero, List.getElem?_cons_succ] at X5c0 X5c1 X5c2 X5c3 X5c4 X5c5 X5c6 X5c7 X5c8 X5c9 X5c10
  go_wp2_with fail
  refine (implBookPut_any _ _ _ (.slice AH_6 hs1.length cH_6) (.slice AC_6 cs1.length cC_6) (.slice AS_6 ss1.length cS_6) (.slice AL_6 sl1.length cL_6) l0 (id1, lm1, ps1, mo1, su1, hs1, (sp1, hd1, cs1, ss1), sl1) w107 (HHD.out.below (HB0.out.trans (hB7.mono (by first | omega | (simp <;> omega)))) (Nat.le_refl _)) HS0.out HY0.out.2 HS1.out HY1.out (AcctsIv.rd H4.out) (by omega) H5.out.mine.rd (by omega)).mono ?_
  rintro e w108 ⟨u_8, rfl, hu8, hb8⟩
  rw [← HPT.out] at hu8 ⊢
  obtain ⟨A_8, c_8, rfl, -⟩ := Rep.slice_form (AcctsIv.rd hu8)
  have zz108 : w107.heap.size ≤ w108.heap.size := hb8.size
  have hB8 := hB7.trans (hb8.mono (show w.heap.size + 2 ≤ _ by omega))
  replace HX0 := Lib.hid (Rep.below (R := AcctsR) HX0.out hb8 (by omega))
  replace HX1 := Lib.hid (Rep.below (R := AcctR) HX1.out hb8 (by omega))
  replace X6 := Lib.hid ((hb8.block _ (by omega)).trans X6.out)
  replace W6 := Lib.hid (Rep.below (R := AcctsR) W6.out hb8 (by omega))
  replace H4 := Lib.hid (AcctsIv.below H4.out hb8 (by omega))
  replace X4 := Lib.hid ((hb8.block _ (by omega)).trans X4.out)
  replace H5 := Lib.hid (H5.out.below hb8 (by omega))
  replace X5 := Lib.hid ((hb8.block _ (by omega)).trans X5.out)
  clear x_0 x_1 x_2 x_3 x_4 x_5 x_6 x_7 x_8 x_9 x_10 x_11
  obtain ⟨x_0, x_1, x_2, x_3, x_4, x_5, x_6, x_7, x_8, x_9, x_10, x_11⟩ := HX.out w108 hB8
  have HG := Lib.hid hu8
  clear X6c0
  clear X4c0
  clear X5c0 X5c1 X5c2 X5c3 X5c4 X5c5 X5c6 X5c7 X5c8 X5c9 X5c10
  have X6c0 := cell_of_row _ _ 0 _ _ (0, 0) X6.out
  simp only [List.getElem?_toArray, List.getElem?_cons_zero] at X6c0
  have X4c0 := cell_of_row _ _ 0 _ _ (0, 0) X4.out
  simp only [List.getElem?_toArray, List.getElem?_cons_zero] at X4c0
  have X5c0 := cell_of_row _ _ 0 _ _ (0, 0) X5.out
  have X5c1 := cell_of_row _ _ 1 _ _ (0, 0) X5.out
  have X5c2 := cell_of_row _ _ 2 _ _ (0, 0) X5.out
  have X5c3 := cell_of_row _ _ 3 _ _ (0, 0) X5.out
  have X5c4 := cell_of_row _ _ 4 _ _ (0, 0) X5.out
  have X5c5 := cell_of_row _ _ 5 _ _ (0, 0) X5.out
  have X5c6 := cell_of_row _ _ 6 _ _ (0, 0) X5.out
  have X5c7 := cell_of_row _ _ 7 _ _ (0, 0) X5.out
  have X5c8 := cell_of_row _ _ 8 _ _ (0, 0) X5.out
  have X5c9 := cell_of_row _ _ 9 _ _ (0, 0) X5.out
  have X5c10 := cell_of_row _ _ 10 _ _ (0, 0) X5.out
  simp only [List.getElem?_toArray, List.getElem?_cons_zero, List.getElem?_cons_succ] at X5c0 X5c1 X5c2 X5c3 X5c4 X5c5 X5c6 X5c7 X5c8 X5c9 X5c10
  have yy8_0 : w.heap.size < w108.heap.size := by omega
  have yy8_1 : w.heap.size + 1 < w108.heap.size := by omega
  have yy8X6 : gX6 < w108.heap.size := by omega
  have yy8X4 : w104.heap.size < w108.heap.size := by omega
  have yy8X5 : w106.heap.size < w108.heap.size := by omega
  go_wp2_with fail
  have hb9 := (Below.refl w108.heap.size w108).alloc (Nat.le_refl _) (.cells #[.slice A_8 PR.1.length c_8] 29)
  have hXG := heap_alloc_new w108 (.cells #[.slice A_8 PR.1.length c_8] 29)
  generalize w108.alloc (.cells #[.slice A_8 PR.1.length c_8] 29) = w109 at hb9 hXG ⊢
  have zz109 : w108.heap.size ≤ w109.heap.size := hb9.size
  have zl9 : w108.heap.size < w109.heap.size := lt_of_block hXG
  have hB9 := hB8.trans (hb9.mono (show w.heap.size + 2 ≤ _ by omega))
  replace HX0 := Lib.hid (Rep.below (R := AcctsR) HX0.out hb9 (by omega))
  replace HX1 := Lib.hid (Rep.below (R := AcctR) HX1.out hb9 (by omega))
  replace X6 := Lib.hid ((hb9.block _ (by omega)).trans X6.out)
  replace W6 := Lib.hid (Rep.below (R := AcctsR) W6.out hb9 (by omega))
  replace H4 := Lib.hid (AcctsIv.below H4.out hb9 (by omega))
  replace X4 := Lib.hid ((hb9.block _ (by omega)).trans X4.out)
  replace H5 := Lib.hid (H5.out.below hb9 (by omega))
  replace X5 := Lib.hid ((hb9.block _ (by omega)).trans X5.out)
  replace HG := Lib.hid (AcctsIv.below HG.out hb9 (by omega))
  have XG := Lib.hid hXG
  clear hXG
  clear x_0 x_1 x_2 x_3 x_4 x_5 x_6 x_7 x_8 x_9 x_10 x_11
  obtain ⟨x_0, x_1, x_2, x_3, x_4, x_5, x_6, x_7, x_8, x_9, x_10, x_11⟩ := HX.out w109 hB9
  have XGc0 := cell_of_row _ _ 0 _ _ (0, 0) XG.out
  simp only [List.getElem?_toArray, List.getElem?_cons_zero] at XGc0
  go_wp2_with fail
  refine (eqBook_any _ _ _ _ PR.1 w109 HS9.out (AcctsIv.rd HG.out) W6.out (by omega) (by omega)).mono ?_
  rintro e w110 ⟨rfl, hb10⟩
  have zz110 : w109.heap.size ≤ w110.heap.size := hb10.size
  have hB10 := hB9.trans (hb10.mono (show w.heap.size + 2 ≤ _ by omega))
  replace HX0 := Lib.hid (Rep.below (R := AcctsR) HX0.out hb10 (by omega))
  replace HX1 := Lib.hid (Rep.below (R := AcctR) HX1.out hb10 (by omega))
  replace X6 := Lib.hid ((hb10.block _ (by omega)).trans X6.out)
  replace W6 := Lib.hid (Rep.below (R := AcctsR) W6.out hb10 (by omega))
  replace H4 := Lib.hid (AcctsIv.below H4.out hb10 (by omega))
  replace X4 := Lib.hid ((hb10.block _ (by omega)).trans X4.out)
  replace H5 := Lib.hid (H5.out.below hb10 (by omega))
  replace X5 := Lib.hid ((hb10.block _ (by omega)).trans X5.out)
  replace HG := Lib.hid (AcctsIv.below HG.out hb10 (by omega))
  replace XG := Lib.hid ((hb10.block _ (by omega)).trans XG.out)
  clear x_0 x_1 x_2 x_3 x_4 x_5 x_6 x_7 x_8 x_9 x_10 x_11
  obtain ⟨x_0, x_1, x_2, x_3, x_4, x_5, x_6, x_7, x_8, x_9, x_10, x_11⟩ := HX.out w110 hB10
  clear X6c0
  clear X4c0
  clear X5c0 X5c1 X5c2 X5c3 X5c4 X5c5 X5c6 X5c7 X5c8 X5c9 X5c10
  clear XGc0
  have X6c0 := cell_of_row _ _ 0 _ _ (0, 0) X6.out
  simp only [List.getElem?_toArray, List.getElem?_cons_zero] at X6c0
  have X4c0 := cell_of_row _ _ 0 _ _ (0, 0) X4.out
  simp only [List.getElem?_toArray, List.getElem?_cons_zero] at X4c0
  have X5c0 := cell_of_row _ _ 0 _ _ (0, 0) X5.out
  have X5c1 := cell_of_row _ _ 1 _ _ (0, 0) X5.out
  have X5c2 := cell_of_row _ _ 2 _ _ (0, 0) X5.out
  have X5c3 := cell_of_row _ _ 3 _ _ (0, 0) X5.out
  have X5c4 := cell_of_row _ _ 4 _ _ (0, 0) X5.out
  have X5c5 := cell_of_row _ _ 5 _ _ (0, 0) X5.out
  have X5c6 := cell_of_row _ _ 6 _ _ (0, 0) X5.out
  have X5c7 := cell_of_row _ _ 7 _ _ (0, 0) X5.out
  have X5c8 := cell_of_row _ _ 8 _ _ (0, 0) X5.out
  have X5c9 := cell_of_row _ _ 9 _ _ (0, 0) X5.out
  have X5c10 := cell_of_row _ _ 10 _ _ (0, 0) X5.out
  simp only [List.getElem?_toArray, List.getElem?_cons_zero, List.getElem?_cons_succ] at X5c0 X5c1 X5c2 X5c3 X5c4 X5c5 X5c6 X5c7 X5c8 X5c9 X5c10
  have XGc0 := cell_of_row _ _ 0 _ _ (0, 0) XG.out
  simp only [List.getElem?_toArray, List.getElem?_cons_zero] at XGc0
  go_wp2
  have hD : Below w110.heap.size w110 w110.drew := (Below.refl _ _).drew
  have zD : w110.drew.heap.size = w110.heap.size := rfl
  go_region_held3 (fun V => V.cell? ⟨w104.heap.size, 0, none⟩ = some (.slice A_4 l0.length c_4) ∧ V.cell? ⟨w.heap.size, 0, none⟩ = some (.slice AB0 l0.length cB0)) (go_keep) (first | (go_at_call 8; refine (toBook_any w.heap.size _ l0 w110.drew HS0.out (Rep.below (R := AcctsR) HX0.out hD (by omega)) (show w.heap.size ≤ w110.heap.size by omega)).mono ?_; rintro e w111 ⟨uq, rfl, huq, hbq⟩; obtain ⟨Aq, cq, rfl, -⟩ := Rep.slice_form (AcctsIv.rd huq); have zq := hbq.size; have qa0 := (hbq.cell (p := ⟨w104.heap.size, 0, none⟩) (show w104.heap.size < _ by omega)).trans X4c0; have qa1 := (hbq.cell (p := ⟨w.heap.size, 0, none⟩) (show w.heap.size < _ by omega)).trans x_0) | (go_at_call 10; refine (eqBook_any _ _ _ _ l0 w111 HS0.out (AcctsIv.rd (AcctsIv.below (AcctsIv.below H4.out hD (by omega)) hbq (by omega))) (AcctsIv.rd huq) (by omega) (by omega)).mono ?_; rintro e w112 ⟨rfl, hbr⟩; have qb0 := (hbr.cell (p := ⟨w104.heap.size, 0, none⟩) (show w104.heap.size < _ by omega)).trans qa0; have qb1 := (hbr.cell (p := ⟨w.heap.size, 0, none⟩) (show w.heap.size < _ by omega)).trans qa1) | fail)
  have hb12 : Below w110.heap.size w110 w112 := (hD.trans (hbq.mono (show w110.heap.size ≤ _ by omega))).trans (hbr.mono (show w110.heap.size ≤ _ by omega))
  have hB12 := hB10.trans (hb12.mono (show w.heap.size + 2 ≤ _ by omega))
  have zz112 : w110.heap.size ≤ w112.heap.size := hb12.size
  clear hbq hbr huq qa0 qb0 qa1 qb1 hD zD
  replace HX0 := Lib.hid (Rep.below (R := AcctsR) HX0.out hb12 (by omega))
  replace HX1 := Lib.hid (Rep.below (R := AcctR) HX1.out hb12 (by omega))
  replace X6 := Lib.hid ((hb12.block _ (by omega)).trans X6.out)
  replace W6 := Lib.hid (Rep.below (R := AcctsR) W6.out hb12 (by omega))
  replace H4 := Lib.hid (AcctsIv.below H4.out hb12 (by omega))
  replace X4 := Lib.hid ((hb12.block _ (by omega)).trans X4.out)
  replace H5 := Lib.hid (H5.out.below hb12 (by omega))
  replace X5 := Lib.hid ((hb12.block _ (by omega)).trans X5.out)
  replace HG := Lib.hid (AcctsIv.below HG.out hb12 (by omega))
  replace XG := Lib.hid ((hb12.block _ (by omega)).trans XG.out)
  clear x_0 x_1 x_2 x_3 x_4 x_5 x_6 x_7 x_8 x_9 x_10 x_11
  obtain ⟨x_0, x_1, x_2, x_3, x_4, x_5, x_6, x_7, x_8, x_9, x_10, x_11⟩ := HX.out w112 hB12
  clear X6c0
  clear X4c0
  clear X5c0 X5c1 X5c2 X5c3 X5c4 X5c5 X5c6 X5c7 X5c8 X5c9 X5c10
  clear XGc0
  have X6c0 := cell_of_row _ _ 0 _ _ (0, 0) X6.out
  simp only [List.getElem?_toArray, List.getElem?_cons_zero] at X6c0
  have X4c0 := cell_of_row _ _ 0 _ _ (0, 0) X4.out
  simp only [List.getElem?_toArray, List.getElem?_cons_zero] at X4c0
  have X5c0 := cell_of_row _ _ 0 _ _ (0, 0) X5.out
  have X5c1 := cell_of_row _ _ 1 _ _ (0, 0) X5.out
  have X5c2 := cell_of_row _ _ 2 _ _ (0, 0) X5.out
  have X5c3 := cell_of_row _ _ 3 _ _ (0, 0) X5.out
  have X5c4 := cell_of_row _ _ 4 _ _ (0, 0) X5.out
  have X5c5 := cell_of_row _ _ 5 _ _ (0, 0) X5.out
  have X5c6 := cell_of_row _ _ 6 _ _ (0, 0) X5.out
  have X5c7 := cell_of_row _ _ 7 _ _ (0, 0) X5.out
  have X5c8 := cell_of_row _ _ 8 _ _ (0, 0) X5.out
  have X5c9 := cell_of_row _ _ 9 _ _ (0, 0) X5.out
  have X5c10 := cell_of_row _ _ 10 _ _ (0, 0) X5.out
  simp only [List.getElem?_toArray, List.getElem?_cons_zero, List.getElem?_cons_succ] at X5c0 X5c1 X5c2 X5c3 X5c4 X5c5 X5c6 X5c7 X5c8 X5c9 X5c10
  have XGc0 := cell_of_row _ _ 0 _ _ (0, 0) XG.out
  simp only [List.getElem?_toArray, List.getElem?_cons_zero] at XGc0
  go_wp2
  have hD : Below w112.heap.size w112 w112.drew := (Below.refl _ _).drew
  have zD : w112.drew.heap.size = w112.heap.size := rfl
  go_region_held3 (fun V => V.cell? ⟨w106.heap.size, 0, none⟩ = some (.string id1) ∧ V.cell? ⟨w106.heap.size, 1, none⟩ = some (.int .i64 lm1) ∧ V.cell? ⟨w106.heap.size, 2, none⟩ = some (.int .i64 ps1) ∧ V.cell? ⟨w106.heap.size, 3, none⟩ = some (.int .i64 mo1) ∧ V.cell? ⟨w106.heap.size, 4, none⟩ = some (.int .i64 su1) ∧ V.cell? ⟨w106.heap.size, 5, none⟩ = some (.slice AH_6 hs1.length cH_6) ∧ V.cell? ⟨w106.heap.size, 6, none⟩ = some (.int .i64 sp1) ∧ V.cell? ⟨w106.heap.size, 7, none⟩ = some (.int .i64 hd1) ∧ V.cell? ⟨w106.heap.size, 8, none⟩ = some (.slice AC_6 cs1.length cC_6) ∧ V.cell? ⟨w106.heap.size, 9, none⟩ = some (.slice AS_6 ss1.length cS_6) ∧ V.cell? ⟨w106.heap.size, 10, none⟩ = some (.slice AL_6 sl1.length cL_6) ∧ V.cell? ⟨w.heap.size + 1, 0, none⟩ = some (.string id1) ∧ V.cell? ⟨w.heap.size + 1, 1, none⟩ = some (.int .i64 lm1) ∧ V.cell? ⟨w.heap.size + 1, 2, none⟩ = some (.int .i64 ps1) ∧ V.cell? ⟨w.heap.size + 1, 3, none⟩ = some (.int .i64 mo1) ∧ V.cell? ⟨w.heap.size + 1, 4, none⟩ = some (.int .i64 su1) ∧ V.cell? ⟨w.heap.size + 1, 5, none⟩ = some (.slice AH1 hs1.length cH1) ∧ V.cell? ⟨w.heap.size + 1, 6, none⟩ = some (.int .i64 sp1) ∧ V.cell? ⟨w.heap.size + 1, 7, none⟩ = some (.int .i64 hd1) ∧ V.cell? ⟨w.heap.size + 1, 8, none⟩ = some (.slice AC1 cs1.length cC1) ∧ V.cell? ⟨w.heap.size + 1, 9, none⟩ = some (.slice AS1 ss1.length cS1) ∧ V.cell? ⟨w.heap.size + 1, 10, none⟩ = some (.slice AL1 sl1.length cL1)) (go_keep) (first | (go_at_call 17; refine (toAcct_any w.heap.size (.slice AH1 hs1.length cH1) (.slice AC1 cs1.length cC1) (.slice AS1 ss1.length cS1) (.slice AL1 sl1.length cL1) (id1, lm1, ps1, mo1, su1, hs1, (sp1, hd1, cs1, ss1), sl1) w112.drew HS1.out (Rep.below (R := AcctR) HX1.out hD (by omega)) (show w.heap.size ≤ w112.heap.size by omega)).mono ?_; rintro e w113 ⟨uhq, ucq, usq, ulq, rfl, huq, hbq⟩; obtain ⟨xh, xc, xs, xl, hcs, q1, q2, q3, q4⟩ := acct_rd huq.rd; simp only [aCells, List.cons.injEq, and_true, true_and] at hcs; obtain ⟨rfl, rfl, rfl, rfl⟩ := hcs; simp only [aH, aS] at q1 q2 q3 q4; obtain ⟨AHq, cHq, rfl, -⟩ := Rep.slice_form q1; obtain ⟨ACq, cCq, rfl, -⟩ := q2.form; obtain ⟨ASq, cSq, rfl, -⟩ := q3.form; obtain ⟨ALq, cLq, rfl, -⟩ := Rep.slice_form q4; clear q1 q2 q3 q4; have zq := hbq.size; have qa0 := (hbq.cell (p := ⟨w106.heap.size, 0, none⟩) (show w106.heap.size < _ by omega)).trans X5c0; have qa1 := (hbq.cell (p := ⟨w106.heap.size, 1, none⟩) (show w106.heap.size < _ by omega)).trans X5c1; have qa2 := (hbq.cell (p := ⟨w106.heap.size, 2, none⟩) (show w106.heap.size < _ by omega)).trans X5c2; have qa3 := (hbq.cell (p := ⟨w106.heap.size, 3, none⟩) (show w106.heap.size < _ by omega)).trans X5c3; have qa4 := (hbq.cell (p := ⟨w106.heap.size, 4, none⟩) (show w106.heap.size < _ by omega)).trans X5c4; have qa5 := (hbq.cell (p := ⟨w106.heap.size, 5, none⟩) (show w106.heap.size < _ by omega)).trans X5c5; have qa6 := (hbq.cell (p := ⟨w106.heap.size, 6, none⟩) (show w106.heap.size < _ by omega)).trans X5c6; have qa7 := (hbq.cell (p := ⟨w106.heap.size, 7, none⟩) (show w106.heap.size < _ by omega)).trans X5c7; have qa8 := (hbq.cell (p := ⟨w106.heap.size, 8, none⟩) (show w106.heap.size < _ by omega)).trans X5c8; have qa9 := (hbq.cell (p := ⟨w106.heap.size, 9, none⟩) (show w106.heap.size < _ by omega)).trans X5c9; have qa10 := (hbq.cell (p := ⟨w106.heap.size, 10, none⟩) (show w106.heap.size < _ by omega)).trans X5c10; have qa11 := (hbq.cell (p := ⟨w.heap.size + 1, 0, none⟩) (show w.heap.size + 1 < _ by omega)).trans x_1; have qa12 := (hbq.cell (p := ⟨w.heap.size + 1, 1, none⟩) (show w.heap.size + 1 < _ by omega)).trans x_2; have qa13 := (hbq.cell (p := ⟨w.heap.size + 1, 2, none⟩) (show w.heap.size + 1 < _ by omega)).trans x_3; have qa14 := (hbq.cell (p := ⟨w.heap.size + 1, 3, none⟩) (show w.heap.size + 1 < _ by omega)).trans x_4; have qa15 := (hbq.cell (p := ⟨w.heap.size + 1, 4, none⟩) (show w.heap.size + 1 < _ by omega)).trans x_5; have qa16 := (hbq.cell (p := ⟨w.heap.size + 1, 5, none⟩) (show w.heap.size + 1 < _ by omega)).trans x_6; have qa17 := (hbq.cell (p := ⟨w.heap.size + 1, 6, none⟩) (show w.heap.size + 1 < _ by omega)).trans x_7; have qa18 := (hbq.cell (p := ⟨w.heap.size + 1, 7, none⟩) (show w.heap.size + 1 < _ by omega)).trans x_8; have qa19 := (hbq.cell (p := ⟨w.heap.size + 1, 8, none⟩) (show w.heap.size + 1 < _ by omega)).trans x_9; have qa20 := (hbq.cell (p := ⟨w.heap.size + 1, 9, none⟩) (show w.heap.size + 1 < _ by omega)).trans x_10; have qa21 := (hbq.cell (p := ⟨w.heap.size + 1, 10, none⟩) (show w.heap.size + 1 < _ by omega)).trans x_11) | (go_at_call 19; refine (eqAcct_any _ _ (.slice AH_6 hs1.length cH_6) (.slice AC_6 cs1.length cC_6) (.slice AS_6 ss1.length cS_6) (.slice AL_6 sl1.length cL_6) (.slice AHq hs1.length cHq) (.slice ACq cs1.length cCq) (.slice ASq ss1.length cSq) (.slice ALq sl1.length cLq) (id1, lm1, ps1, mo1, su1, hs1, (sp1, hd1, cs1, ss1), sl1) w113 HS1.out (Rep.below (R := AcctR) (Rep.below (R := AcctR) H5.out.mine.rd hD (by omega)) hbq (by omega)) huq.rd (by omega) (by omega)).mono ?_; rintro e w114 ⟨rfl, hbr⟩; have qb0 := (hbr.cell (p := ⟨w106.heap.size, 0, none⟩) (show w106.heap.size < _ by omega)).trans qa0; have qb1 := (hbr.cell (p := ⟨w106.heap.size, 1, none⟩) (show w106.heap.size < _ by omega)).trans qa1; have qb2 := (hbr.cell (p := ⟨w106.heap.size, 2, none⟩) (show w106.heap.size < _ by omega)).trans qa2; have qb3 := (hbr.cell (p := ⟨w106.heap.size, 3, none⟩) (show w106.heap.size < _ by omega)).trans qa3; have qb4 := (hbr.cell (p := ⟨w106.heap.size, 4, none⟩) (show w106.heap.size < _ by omega)).trans qa4; have qb5 := (hbr.cell (p := ⟨w106.heap.size, 5, none⟩) (show w106.heap.size < _ by omega)).trans qa5; have qb6 := (hbr.cell (p := ⟨w106.heap.size, 6, none⟩) (show w106.heap.size < _ by omega)).trans qa6; have qb7 := (hbr.cell (p := ⟨w106.heap.size, 7, none⟩) (show w106.heap.size < _ by omega)).trans qa7; have qb8 := (hbr.cell (p := ⟨w106.heap.size, 8, none⟩) (show w106.heap.size < _ by omega)).trans qa8; have qb9 := (hbr.cell (p := ⟨w106.heap.size, 9, none⟩) (show w106.heap.size < _ by omega)).trans qa9; have qb10 := (hbr.cell (p := ⟨w106.heap.size, 10, none⟩) (show w106.heap.size < _ by omega)).trans qa10; have qb11 := (hbr.cell (p := ⟨w.heap.size + 1, 0, none⟩) (show w.heap.size + 1 < _ by omega)).trans qa11; have qb12 := (hbr.cell (p := ⟨w.heap.size + 1, 1, none⟩) (show w.heap.size + 1 < _ by omega)).trans qa12; have qb13 := (hbr.cell (p := ⟨w.heap.size + 1, 2, none⟩) (show w.heap.size + 1 < _ by omega)).trans qa13; have qb14 := (hbr.cell (p := ⟨w.heap.size + 1, 3, none⟩) (show w.heap.size + 1 < _ by omega)).trans qa14; have qb15 := (hbr.cell (p := ⟨w.heap.size + 1, 4, none⟩) (show w.heap.size + 1 < _ by omega)).trans qa15; have qb16 := (hbr.cell (p := ⟨w.heap.size + 1, 5, none⟩) (show w.heap.size + 1 < _ by omega)).trans qa16; have qb17 := (hbr.cell (p := ⟨w.heap.size + 1, 6, none⟩) (show w.heap.size + 1 < _ by omega)).trans qa17; have qb18 := (hbr.cell (p := ⟨w.heap.size + 1, 7, none⟩) (show w.heap.size + 1 < _ by omega)).trans qa18; have qb19 := (hbr.cell (p := ⟨w.heap.size + 1, 8, none⟩) (show w.heap.size + 1 < _ by omega)).trans qa19; have qb20 := (hbr.cell (p := ⟨w.heap.size + 1, 9, none⟩) (show w.heap.size + 1 < _ by omega)).trans qa20; have qb21 := (hbr.cell (p := ⟨w.heap.size + 1, 10, none⟩) (show w.heap.size + 1 < _ by omega)).trans qa21) | fail)
  have hb14 : Below w112.heap.size w112 w114 := (hD.trans (hbq.mono (show w112.heap.size ≤ _ by omega))).trans (hbr.mono (show w112.heap.size ≤ _ by omega))
  have hB14 := hB12.trans (hb14.mono (show w.heap.size + 2 ≤ _ by omega))
  have zz114 : w112.heap.size ≤ w114.heap.size := hb14.size
  clear hbq hbr huq qa0 qb0 qa1 qb1 qa2 qb2 qa3 qb3 qa4 qb4 qa5 qb5 qa6 qb6 qa7 qb7 qa8 qb8 qa9 qb9 qa10 qb10 qa11 qb11 qa12 qb12 qa13 qb13 qa14 qb14 qa15 qb15 qa16 qb16 qa17 qb17 qa18 qb18 qa19 qb19 qa20 qb20 qa21 qb21 hD zD
  replace HX0 := Lib.hid (Rep.below (R := AcctsR) HX0.out hb14 (by omega))
  replace HX1 := Lib.hid (Rep.below (R := AcctR) HX1.out hb14 (by omega))
  replace X6 := Lib.hid ((hb14.block _ (by omega)).trans X6.out)
  replace W6 := Lib.hid (Rep.below (R := AcctsR) W6.out hb14 (by omega))
  replace H4 := Lib.hid (AcctsIv.below H4.out hb14 (by omega))
  replace X4 := Lib.hid ((hb14.block _ (by omega)).trans X4.out)
  replace H5 := Lib.hid (H5.out.below hb14 (by omega))
  replace X5 := Lib.hid ((hb14.block _ (by omega)).trans X5.out)
  replace HG := Lib.hid (AcctsIv.below HG.out hb14 (by omega))
  replace XG := Lib.hid ((hb14.block _ (by omega)).trans XG.out)
  clear x_0 x_1 x_2 x_3 x_4 x_5 x_6 x_7 x_8 x_9 x_10 x_11
  obtain ⟨x_0, x_1, x_2, x_3, x_4, x_5, x_6, x_7, x_8, x_9, x_10, x_11⟩ := HX.out w114 hB14
  clear X6c0
  clear X4c0
  clear X5c0 X5c1 X5c2 X5c3 X5c4 X5c5 X5c6 X5c7 X5c8 X5c9 X5c10
  clear XGc0
  have X6c0 := cell_of_row _ _ 0 _ _ (0, 0) X6.out
  simp only [List.getElem?_toArray, List.getElem?_cons_zero] at X6c0
  have X4c0 := cell_of_row _ _ 0 _ _ (0, 0) X4.out
  simp only [List.getElem?_toArray, List.getElem?_cons_zero] at X4c0
  have X5c0 := cell_of_row _ _ 0 _ _ (0, 0) X5.out
  have X5c1 := cell_of_row _ _ 1 _ _ (0, 0) X5.out
  have X5c2 := cell_of_row _ _ 2 _ _ (0, 0) X5.out
  have X5c3 := cell_of_row _ _ 3 _ _ (0, 0) X5.out
  have X5c4 := cell_of_row _ _ 4 _ _ (0, 0) X5.out
  have X5c5 := cell_of_row _ _ 5 _ _ (0, 0) X5.out
  have X5c6 := cell_of_row _ _ 6 _ _ (0, 0) X5.out
  have X5c7 := cell_of_row _ _ 7 _ _ (0, 0) X5.out
  have X5c8 := cell_of_row _ _ 8 _ _ (0, 0) X5.out
  have X5c9 := cell_of_row _ _ 9 _ _ (0, 0) X5.out
  have X5c10 := cell_of_row _ _ 10 _ _ (0, 0) X5.out
  simp only [List.getElem?_toArray, List.getElem?_cons_zero, List.getElem?_cons_succ] at X5c0 X5c1 X5c2 X5c3 X5c4 X5c5 X5c6 X5c7 X5c8 X5c9 X5c10
  have XGc0 := cell_of_row _ _ 0 _ _ (0, 0) XG.out
  simp only [List.getElem?_toArray, List.getElem?_cons_zero] at XGc0
  go_wp2_with fail
  refine (markBook_any _ _ _ l0 1 w114 HS0.out (by omega) (Int.le_trans HK0.out (by omega)) H4.out (by omega)).mono ?_
  rintro e w115 ⟨rfl, hmk15, ht15⟩
  have zz115 : w114.heap.size ≤ w115.heap.size := ht15.size
  have hB15 := hB14.trans (ht15.below (show w.heap.size + 2 ≤ _ by omega) (by omega))
  replace HX0 := Lib.hid (Rep.turned (R := AcctsR) HX0.out ht15 (by omega) (by omega))
  replace HX1 := Lib.hid (Rep.turned (R := AcctR) HX1.out ht15 (by omega) (by omega))
  replace X6 := Lib.hid ((ht15.block _ (by omega) (by omega)).trans X6.out)
  replace W6 := Lib.hid (Rep.turned (R := AcctsR) W6.out ht15 (by omega) (by omega))
  replace X4 := Lib.hid ((ht15.block _ (by omega) (by omega)).trans X4.out)
  replace H5 := Lib.hid (H5.out.turned ht15 (by omega) (by omega))
  replace X5 := Lib.hid ((ht15.block _ (by omega) (by omega)).trans X5.out)
  replace HG := Lib.hid (AcctsIv.turned HG.out ht15 (by omega) (by omega))
  replace XG := Lib.hid ((ht15.block _ (by omega) (by omega)).trans XG.out)
  clear H4
  clear x_0 x_1 x_2 x_3 x_4 x_5 x_6 x_7 x_8 x_9 x_10 x_11
  obtain ⟨x_0, x_1, x_2, x_3, x_4, x_5, x_6, x_7, x_8, x_9, x_10, x_11⟩ := HX.out w115 hB15
  clear X6c0
  clear X4c0
  clear X5c0 X5c1 X5c2 X5c3 X5c4 X5c5 X5c6 X5c7 X5c8 X5c9 X5c10
  clear XGc0
  have X6c0 := cell_of_row _ _ 0 _ _ (0, 0) X6.out
  simp only [List.getElem?_toArray, List.getElem?_cons_zero] at X6c0
  have X4c0 := cell_of_row _ _ 0 _ _ (0, 0) X4.out
  simp only [List.getElem?_toArray, List.getElem?_cons_zero] at X4c0
  have X5c0 := cell_of_row _ _ 0 _ _ (0, 0) X5.out
  have X5c1 := cell_of_row _ _ 1 _ _ (0, 0) X5.out
  have X5c2 := cell_of_row _ _ 2 _ _ (0, 0) X5.out
  have X5c3 := cell_of_row _ _ 3 _ _ (0, 0) X5.out
  have X5c4 := cell_of_row _ _ 4 _ _ (0, 0) X5.out
  have X5c5 := cell_of_row _ _ 5 _ _ (0, 0) X5.out
  have X5c6 := cell_of_row _ _ 6 _ _ (0, 0) X5.out
  have X5c7 := cell_of_row _ _ 7 _ _ (0, 0) X5.out
  have X5c8 := cell_of_row _ _ 8 _ _ (0, 0) X5.out
  have X5c9 := cell_of_row _ _ 9 _ _ (0, 0) X5.out
  have X5c10 := cell_of_row _ _ 10 _ _ (0, 0) X5.out
  simp only [List.getElem?_toArray, List.getElem?_cons_zero, List.getElem?_cons_succ] at X5c0 X5c1 X5c2 X5c3 X5c4 X5c5 X5c6 X5c7 X5c8 X5c9 X5c10
  have XGc0 := cell_of_row _ _ 0 _ _ (0, 0) XG.out
  simp only [List.getElem?_toArray, List.getElem?_cons_zero] at XGc0
  have kka := kBk_up l0 1
  have kkb := HK0.out
  have kkd := HK1.out (kBk l0 1) HK0.out
  have kke := (kAcct_el (id1, lm1, ps1, mo1, su1, hs1, (sp1, hd1, cs1, ss1), sl1) (kBk l0 1)).1
  generalize kBk l0 1 = Ka at kka kkb kkd kke ⊢
  go_wp2_with fail
  refine (markAcctKI_any _ _ (.slice AH_6 hs1.length cH_6) (.slice AC_6 cs1.length cC_6) (.slice AS_6 ss1.length cS_6) (.slice AL_6 sl1.length cL_6) (id1, lm1, ps1, mo1, su1, hs1, (sp1, hd1, cs1, ss1), sl1) Ka (by omega) (by omega) w115 HS1.out (by omega) H5.out (by omega)).mono ?_
  rintro e w116 ⟨rfl, ht16⟩
  have zz116 : w115.heap.size ≤ w116.heap.size := ht16.size
  have hB16 := hB15.trans (ht16.below (show w.heap.size + 2 ≤ _ by omega) (by omega))
  replace HX0 := Lib.hid (Rep.turned (R := AcctsR) HX0.out ht16 (by omega) (by omega))
  replace HX1 := Lib.hid (Rep.turned (R := AcctR) HX1.out ht16 (by omega) (by omega))
  replace X6 := Lib.hid ((ht16.block _ (by omega) (by omega)).trans X6.out)
  replace W6 := Lib.hid (Rep.turned (R := AcctsR) W6.out ht16 (by omega) (by omega))
  replace X4 := Lib.hid ((ht16.block _ (by omega) (by omega)).trans X4.out)
  replace X5 := Lib.hid ((ht16.block _ (by omega) (by omega)).trans X5.out)
  replace HG := Lib.hid (AcctsIv.turned HG.out ht16 (by omega) (by omega))
  replace XG := Lib.hid ((ht16.block _ (by omega) (by omega)).trans XG.out)
  clear H5
  clear x_0 x_1 x_2 x_3 x_4 x_5 x_6 x_7 x_8 x_9 x_10 x_11
  obtain ⟨x_0, x_1, x_2, x_3, x_4, x_5, x_6, x_7, x_8, x_9, x_10, x_11⟩ := HX.out w116 hB16
  clear X6c0
  clear X4c0
  clear X5c0 X5c1 X5c2 X5c3 X5c4 X5c5 X5c6 X5c7 X5c8 X5c9 X5c10
  clear XGc0
  have X6c0 := cell_of_row _ _ 0 _ _ (0, 0) X6.out
  simp only [List.getElem?_toArray, List.getElem?_cons_zero] at X6c0
  have X4c0 := cell_of_row _ _ 0 _ _ (0, 0) X4.out
  simp only [List.getElem?_toArray, List.getElem?_cons_zero] at X4c0
  have X5c0 := cell_of_row _ _ 0 _ _ (0, 0) X5.out
  have X5c1 := cell_of_row _ _ 1 _ _ (0, 0) X5.out
  have X5c2 := cell_of_row _ _ 2 _ _ (0, 0) X5.out
  have X5c3 := cell_of_row _ _ 3 _ _ (0, 0) X5.out
  have X5c4 := cell_of_row _ _ 4 _ _ (0, 0) X5.out
  have X5c5 := cell_of_row _ _ 5 _ _ (0, 0) X5.out
  have X5c6 := cell_of_row _ _ 6 _ _ (0, 0) X5.out
  have X5c7 := cell_of_row _ _ 7 _ _ (0, 0) X5.out
  have X5c8 := cell_of_row _ _ 8 _ _ (0, 0) X5.out
  have X5c9 := cell_of_row _ _ 9 _ _ (0, 0) X5.out
  have X5c10 := cell_of_row _ _ 10 _ _ (0, 0) X5.out
  simp only [List.getElem?_toArray, List.getElem?_cons_zero, List.getElem?_cons_succ] at X5c0 X5c1 X5c2 X5c3 X5c4 X5c5 X5c6 X5c7 X5c8 X5c9 X5c10
  have XGc0 := cell_of_row _ _ 0 _ _ (0, 0) XG.out
  simp only [List.getElem?_toArray, List.getElem?_cons_zero] at XGc0
  generalize kAcct (id1, lm1, ps1, mo1, su1, hs1, (sp1, hd1, cs1, ss1), sl1) Ka = Kb at kkd kke ⊢
  have kkb0 : ¬ (Kb < 0) := by omega
  go_wp2_with fail
  refine (eqBook_any _ _ _ _ PR.1 w116 HS9.out (AcctsIv.rd HG.out) W6.out (by omega) (by omega)).mono ?_
  rintro e w117 ⟨rfl, hb17⟩
  have zz117 : w116.heap.size ≤ w117.heap.size := hb17.size
  have hB17 := hB16.trans (hb17.mono (show w.heap.size + 2 ≤ _ by omega))
  replace HX0 := Lib.hid (Rep.below (R := AcctsR) HX0.out hb17 (by omega))
  replace HX1 := Lib.hid (Rep.below (R := AcctR) HX1.out hb17 (by omega))
  replace X6 := Lib.hid ((hb17.block _ (by omega)).trans X6.out)
  replace W6 := Lib.hid (Rep.below (R := AcctsR) W6.out hb17 (by omega))
  replace X4 := Lib.hid ((hb17.block _ (by omega)).trans X4.out)
  replace X5 := Lib.hid ((hb17.block _ (by omega)).trans X5.out)
  replace HG := Lib.hid (AcctsIv.below HG.out hb17 (by omega))
  replace XG := Lib.hid ((hb17.block _ (by omega)).trans XG.out)
  clear x_0 x_1 x_2 x_3 x_4 x_5 x_6 x_7 x_8 x_9 x_10 x_11
  obtain ⟨x_0, x_1, x_2, x_3, x_4, x_5, x_6, x_7, x_8, x_9, x_10, x_11⟩ := HX.out w117 hB17
  clear X6c0
  clear X4c0
  clear X5c0 X5c1 X5c2 X5c3 X5c4 X5c5 X5c6 X5c7 X5c8 X5c9 X5c10
  clear XGc0
  have X6c0 := cell_of_row _ _ 0 _ _ (0, 0) X6.out
  simp only [List.getElem?_toArray, List.getElem?_cons_zero] at X6c0
  have X4c0 := cell_of_row _ _ 0 _ _ (0, 0) X4.out
  simp only [List.getElem?_toArray, List.getElem?_cons_zero] at X4c0
  have X5c0 := cell_of_row _ _ 0 _ _ (0, 0) X5.out
  have X5c1 := cell_of_row _ _ 1 _ _ (0, 0) X5.out
  have X5c2 := cell_of_row _ _ 2 _ _ (0, 0) X5.out
  have X5c3 := cell_of_row _ _ 3 _ _ (0, 0) X5.out
  have X5c4 := cell_of_row _ _ 4 _ _ (0, 0) X5.out
  have X5c5 := cell_of_row _ _ 5 _ _ (0, 0) X5.out
  have X5c6 := cell_of_row _ _ 6 _ _ (0, 0) X5.out
  have X5c7 := cell_of_row _ _ 7 _ _ (0, 0) X5.out
  have X5c8 := cell_of_row _ _ 8 _ _ (0, 0) X5.out
  have X5c9 := cell_of_row _ _ 9 _ _ (0, 0) X5.out
  have X5c10 := cell_of_row _ _ 10 _ _ (0, 0) X5.out
  simp only [List.getElem?_toArray, List.getElem?_cons_zero, List.getElem?_cons_succ] at X5c0 X5c1 X5c2 X5c3 X5c4 X5c5 X5c6 X5c7 X5c8 X5c9 X5c10
  have XGc0 := cell_of_row _ _ 0 _ _ (0, 0) XG.out
  simp only [List.getElem?_toArray, List.getElem?_cons_zero] at XGc0
  go_wp2_with fail
  refine (markBook_any _ _ _ PR.1 1 w117 HS9.out (by omega) HK9.out HG.out (by omega)).mono ?_
  rintro e w118 ⟨rfl, hmk18, ht18⟩
  have zz118 : w117.heap.size ≤ w118.heap.size := ht18.size
  have hB18 := hB17.trans (ht18.below (show w.heap.size + 2 ≤ _ by omega) (by omega))
  replace HX0 := Lib.hid (Rep.turned (R := AcctsR) HX0.out ht18 (by omega) (by omega))
  replace HX1 := Lib.hid (Rep.turned (R := AcctR) HX1.out ht18 (by omega) (by omega))
  replace X6 := Lib.hid ((ht18.block _ (by omega) (by omega)).trans X6.out)
  replace W6 := Lib.hid (Rep.turned (R := AcctsR) W6.out ht18 (by omega) (by omega))
  replace X4 := Lib.hid ((ht18.block _ (by omega) (by omega)).trans X4.out)
  replace X5 := Lib.hid ((ht18.block _ (by omega) (by omega)).trans X5.out)
  replace XG := Lib.hid ((ht18.block _ (by omega) (by omega)).trans XG.out)
  clear HG
  clear x_0 x_1 x_2 x_3 x_4 x_5 x_6 x_7 x_8 x_9 x_10 x_11
  obtain ⟨x_0, x_1, x_2, x_3, x_4, x_5, x_6, x_7, x_8, x_9, x_10, x_11⟩ := HX.out w118 hB18
  have HM := Lib.hid hmk18
  clear X6c0
  clear X4c0
  clear X5c0 X5c1 X5c2 X5c3 X5c4 X5c5 X5c6 X5c7 X5c8 X5c9 X5c10
  clear XGc0
  have X6c0 := cell_of_row _ _ 0 _ _ (0, 0) X6.out
  simp only [List.getElem?_toArray, List.getElem?_cons_zero] at X6c0
  have X4c0 := cell_of_row _ _ 0 _ _ (0, 0) X4.out
  simp only [List.getElem?_toArray, List.getElem?_cons_zero] at X4c0
  have X5c0 := cell_of_row _ _ 0 _ _ (0, 0) X5.out
  have X5c1 := cell_of_row _ _ 1 _ _ (0, 0) X5.out
  have X5c2 := cell_of_row _ _ 2 _ _ (0, 0) X5.out
  have X5c3 := cell_of_row _ _ 3 _ _ (0, 0) X5.out
  have X5c4 := cell_of_row _ _ 4 _ _ (0, 0) X5.out
  have X5c5 := cell_of_row _ _ 5 _ _ (0, 0) X5.out
  have X5c6 := cell_of_row _ _ 6 _ _ (0, 0) X5.out
  have X5c7 := cell_of_row _ _ 7 _ _ (0, 0) X5.out
  have X5c8 := cell_of_row _ _ 8 _ _ (0, 0) X5.out
  have X5c9 := cell_of_row _ _ 9 _ _ (0, 0) X5.out
  have X5c10 := cell_of_row _ _ 10 _ _ (0, 0) X5.out
  simp only [List.getElem?_toArray, List.getElem?_cons_zero, List.getElem?_cons_succ] at X5c0 X5c1 X5c2 X5c3 X5c4 X5c5 X5c6 X5c7 X5c8 X5c9 X5c10
  have XGc0 := cell_of_row _ _ 0 _ _ (0, 0) XG.out
  simp only [List.getElem?_toArray, List.getElem?_cons_zero] at XGc0
  have HHE := Lib.hid (fun W hi v (h : AcctsR.rd hi W [v] (bookMark PR.1 1)) (hh : hi ≤ W.heap.size) => heldBook_any hi v PR.1 1 W HS9.out (by omega) HK9.out h hh)
  have kk := kBk_up PR.1 1
  generalize kBk PR.1 1 = K0 at HHE kk ⊢
  have kk0 : ¬ (K0 < 0) := by omega
  go_wp2_with fail
  refine (HHE.out w118 _ _ (AcctsIv.rd HM.out) (by omega)).mono ?_
  rintro e w119 ⟨rfl, hb19⟩
  have zz119 : w118.heap.size ≤ w119.heap.size := hb19.size
  have hB19 := hB18.trans (hb19.mono (show w.heap.size + 2 ≤ _ by omega))
  replace HX0 := Lib.hid (Rep.below (R := AcctsR) HX0.out hb19 (by omega))
  replace HX1 := Lib.hid (Rep.below (R := AcctR) HX1.out hb19 (by omega))
  replace X6 := Lib.hid ((hb19.block _ (by omega)).trans X6.out)
  replace W6 := Lib.hid (Rep.below (R := AcctsR) W6.out hb19 (by omega))
  replace X4 := Lib.hid ((hb19.block _ (by omega)).trans X4.out)
  replace X5 := Lib.hid ((hb19.block _ (by omega)).trans X5.out)
  replace XG := Lib.hid ((hb19.block _ (by omega)).trans XG.out)
  replace HM := Lib.hid (AcctsIv.below HM.out hb19 (by omega))
  clear x_0 x_1 x_2 x_3 x_4 x_5 x_6 x_7 x_8 x_9 x_10 x_11
  obtain ⟨x_0, x_1, x_2, x_3, x_4, x_5, x_6, x_7, x_8, x_9, x_10, x_11⟩ := HX.out w119 hB19
  clear X6c0
  clear X4c0
  clear X5c0 X5c1 X5c2 X5c3 X5c4 X5c5 X5c6 X5c7 X5c8 X5c9 X5c10
  clear XGc0
  have X6c0 := cell_of_row _ _ 0 _ _ (0, 0) X6.out
  simp only [List.getElem?_toArray, List.getElem?_cons_zero] at X6c0
  have X4c0 := cell_of_row _ _ 0 _ _ (0, 0) X4.out
  simp only [List.getElem?_toArray, List.getElem?_cons_zero] at X4c0
  have X5c0 := cell_of_row _ _ 0 _ _ (0, 0) X5.out
  have X5c1 := cell_of_row _ _ 1 _ _ (0, 0) X5.out
  have X5c2 := cell_of_row _ _ 2 _ _ (0, 0) X5.out
  have X5c3 := cell_of_row _ _ 3 _ _ (0, 0) X5.out
  have X5c4 := cell_of_row _ _ 4 _ _ (0, 0) X5.out
  have X5c5 := cell_of_row _ _ 5 _ _ (0, 0) X5.out
  have X5c6 := cell_of_row _ _ 6 _ _ (0, 0) X5.out
  have X5c7 := cell_of_row _ _ 7 _ _ (0, 0) X5.out
  have X5c8 := cell_of_row _ _ 8 _ _ (0, 0) X5.out
  have X5c9 := cell_of_row _ _ 9 _ _ (0, 0) X5.out
  have X5c10 := cell_of_row _ _ 10 _ _ (0, 0) X5.out
  simp only [List.getElem?_toArray, List.getElem?_cons_zero, List.getElem?_cons_succ] at X5c0 X5c1 X5c2 X5c3 X5c4 X5c5 X5c6 X5c7 X5c8 X5c9 X5c10
  have XGc0 := cell_of_row _ _ 0 _ _ (0, 0) XG.out
  simp only [List.getElem?_toArray, List.getElem?_cons_zero] at XGc0
  have hD : Below w119.heap.size w119 w119.drew := (Below.refl _ _).drew
  have zD : w119.drew.heap.size = w119.heap.size := rfl
  have hD1 : ∀ o, Below w119.heap.size w119 (w119.alloc o).drew := fun o => ((Below.refl _ _).alloc (Nat.le_refl _) o).drew
  have HT0 := Lib.hid (fun V (hV : Below w119.heap.size w119 V) => toBook_any w.heap.size _ l0 V HS0.out (Rep.below (R := AcctsR) HX0.out hV (by omega)) (Nat.le_trans (by omega) hV.size))
  have HT1 := Lib.hid (fun V (hV : Below w119.heap.size w119 V) => toAcct_any w.heap.size (.slice AH1 hs1.length cH1) (.slice AC1 cs1.length cC1) (.slice AS1 ss1.length cS1) (.slice AL1 sl1.length cL1) (id1, lm1, ps1, mo1, su1, hs1, (sp1, hd1, cs1, ss1), sl1) V HS1.out (Rep.below (R := AcctR) HX1.out hV (by omega)) (Nat.le_trans (by omega) hV.size))
  simp only [aId, aLim, aPos, aMost, aSum] at HT1
  have yD0 : w.heap.size < w119.heap.size := by omega
  have yD1 : w.heap.size + 1 < w119.heap.size := by omega
  go_upto_region 31 with fail
  go_cut [15, 16] (fun gv bv wx => putIn w119 PR.1 PR.2 gv bv wx)
  case first =>
    go_region_held3 (fun V => V.cell? ⟨w.heap.size, 0, none⟩ = some (.slice AB0 l0.length cB0) ∧ V.cell? ⟨w.heap.size + 1, 0, none⟩ = some (.string id1) ∧ V.cell? ⟨w.heap.size + 1, 1, none⟩ = some (.int .i64 lm1) ∧ V.cell? ⟨w.heap.size + 1, 2, none⟩ = some (.int .i64 ps1) ∧ V.cell? ⟨w.heap.size + 1, 3, none⟩ = some (.int .i64 mo1) ∧ V.cell? ⟨w.heap.size + 1, 4, none⟩ = some (.int .i64 su1) ∧ V.cell? ⟨w.heap.size + 1, 5, none⟩ = some (.slice AH1 hs1.length cH1) ∧ V.cell? ⟨w.heap.size + 1, 6, none⟩ = some (.int .i64 sp1) ∧ V.cell? ⟨w.heap.size + 1, 7, none⟩ = some (.int .i64 hd1) ∧ V.cell? ⟨w.heap.size + 1, 8, none⟩ = some (.slice AC1 cs1.length cC1) ∧ V.cell? ⟨w.heap.size + 1, 9, none⟩ = some (.slice AS1 ss1.length cS1) ∧ V.cell? ⟨w.heap.size + 1, 10, none⟩ = some (.slice AL1 sl1.length cL1)) (first | (repeat' apply And.intro) <;> assumption | (exact HX.out _ ((hB19.trans (hC.mono (by omega))).setCell (p := ⟨_, 0, none⟩) (by first | omega | (simp <;> omega)) _)) | go_keep) (first | (go_at_call 8; (with_reducible refine (HT0.out _ (by first | exact hD | exact hD1 _)).mono ?_); rintro e a ⟨uA, rfl, huA, hbA⟩; obtain ⟨AA, cA, rfl, -⟩ := Rep.slice_form (AcctsIv.rd huA); have zA := hbA.size; have hA : Below w119.heap.size w119 a := (by first | exact hD.trans (hbA.mono (by omega)) | exact (hD1 _).trans (hbA.mono (by simp <;> omega))); have hA1 := (fun o => hA.alloc hA.size o); have zWa : w119.heap.size ≤ a.heap.size := hA.size; (try have zWA : w119.heap.size < a.heap.size := (by have := hbA.size; simp at this; omega)); have hxa := HX.out a (hB19.trans (hA.mono (by omega))); obtain ⟨x_0, x_1, x_2, x_3, x_4, x_5, x_6, x_7, x_8, x_9, x_10, x_11⟩ := hxa; (try have bPa : bk a w119.heap.size 29 [.slice none 0 0] := bk.below (w := (w119.alloc (.cells #[.slice none 0 0] 29)).drew) (show bk (w119.alloc (.cells #[.slice none 0 0] 29)).drew w119.heap.size 29 [.slice none 0 0] from bk.new w119 _ [.slice none 0 0]) hbA (by simp)); (try (have cPa := bPa.cell 0; have fPa := bPa.frozen 0; simp only [List.getElem?_cons_zero] at cPa))) | (go_at_call 17; (with_reducible refine (HT1.out _ (by first | exact hA | exact hA1 _)).mono ?_); rintro e b ⟨uhB, ucB, usB, ulB, rfl, huB, hbB⟩; obtain ⟨xh, xc, xs, xl, hcs, q1, q2, q3, q4⟩ := acct_rd huB.rd; simp only [aCells, List.cons.injEq, and_true, true_and] at hcs; obtain ⟨rfl, rfl, rfl, rfl⟩ := hcs; simp only [aH, aS] at q1 q2 q3 q4; obtain ⟨AHB, cHB, rfl, -⟩ := Rep.slice_form q1; obtain ⟨ACB, cCB, rfl, -⟩ := q2.form; obtain ⟨ASB, cSB, rfl, -⟩ := q3.form; obtain ⟨ALB, cLB, rfl, -⟩ := Rep.slice_form q4; clear q1 q2 q3 q4; have zB := hbB.size; have hB : Below w119.heap.size w119 b := (by first | exact hA.trans (hbB.mono (by omega)) | exact (hA1 _).trans (hbB.mono (by simp <;> omega))); have hB1 := (fun o => hB.alloc hB.size o); have hab : Below a.heap.size a b := (by first | exact hbB | exact ((Below.refl a.heap.size a).alloc (Nat.le_refl _) _).trans (hbB.mono (by simp))); have zab := hab.size; have zWb : w119.heap.size ≤ b.heap.size := hB.size; (try have zWB : a.heap.size < b.heap.size := (by have := hbB.size; simp at this; omega)); have hxb := HX.out b (hB19.trans (hB.mono (by omega))); obtain ⟨x_0, x_1, x_2, x_3, x_4, x_5, x_6, x_7, x_8, x_9, x_10, x_11⟩ := hxb; (try have bPb : bk b w119.heap.size 29 [.slice none 0 0] := bPa.below hbB (by first | omega | (simp <;> omega))); (try have bQb : bk b a.heap.size 29 [.slice none 0 0] := bk.below (w := a.alloc (.cells #[.slice none 0 0] 29)) (bk.new a _ [.slice none 0 0]) hbB (by simp)); (try (have cPb := bPb.cell 0; have fPb := bPb.frozen 0; simp only [List.getElem?_cons_zero] at cPb)); (try (have cQb := bQb.cell 0; have fQb := bQb.frozen 0; simp only [List.getElem?_cons_zero] at cQb)); have HC := (fun V (hV : Below b.heap.size b V) => implBookPut_any a.heap.size b.heap.size _ (.slice AHB hs1.length cHB) (.slice ACB cs1.length cCB) (.slice ASB ss1.length cSB) (.slice ALB sl1.length cLB) l0 (id1, lm1, ps1, mo1, su1, hs1, (sp1, hd1, cs1, ss1), sl1) V (HHD.out.below (((HB0.out.trans (hB19.mono (by first | omega | (simp <;> omega)))).trans (hB.mono (by omega))).trans (hV.mono (by omega))) (Nat.le_refl _)) HS0.out HY0.out.2 HS1.out HY1.out (Rep.below (R := AcctsR) (AcctsIv.rd huA) (hab.trans (hV.mono zab)) (Nat.le_refl _)) (Nat.le_trans zab hV.size) (Rep.below (R := AcctR) huB.rd hV (Nat.le_refl _)) hV.size); simp only [aId, aLim, aPos, aMost, aSum] at HC; rw [← HPT.out] at HC) | (go_at_call 18; (with_reducible refine (HC _ (by first | exact Below.refl _ _ | exact (Below.refl _ _).alloc (Nat.le_refl _) _)).mono ?_); rintro e c ⟨uC, rfl, hmC, hbC⟩; obtain ⟨AC9, cC9, rfl, -⟩ := Rep.slice_form (AcctsIv.rd hmC); have zC := hbC.size; have hC : Below w119.heap.size w119 c := (by first | exact hB.trans (hbC.mono (by omega)) | exact (hB1 _).trans (hbC.mono (by simp <;> omega))); have zWc : w119.heap.size ≤ c.heap.size := hC.size; have hbc : Below b.heap.size b c := (by first | exact hbC | exact ((Below.refl b.heap.size b).alloc (Nat.le_refl _) _).trans (hbC.mono (by simp))); have zbc := hbc.size; (try have zWC : b.heap.size < c.heap.size := (by have := hbC.size; simp at this; omega)); have hxc := HX.out c (hB19.trans (hC.mono (by omega))); obtain ⟨x_0, x_1, x_2, x_3, x_4, x_5, x_6, x_7, x_8, x_9, x_10, x_11⟩ := hxc; (try have bPc : bk c w119.heap.size 29 [.slice none 0 0] := bPb.below hbC (by first | omega | (simp <;> omega))); (try have bQc : bk c a.heap.size 29 [.slice none 0 0] := bQb.below hbC (by first | omega | (simp <;> omega))); (try have bRc : bk c b.heap.size 29 [.slice none 0 0] := bk.below (w := b.alloc (.cells #[.slice none 0 0] 29)) (bk.new b _ [.slice none 0 0]) hbC (by simp)); (try (have cPc := bPc.cell 0; have fPc := bPc.frozen 0; simp only [List.getElem?_cons_zero] at cPc)); (try (have cQc := bQc.cell 0; have fQc := bQc.frozen 0; simp only [List.getElem?_cons_zero] at cQc)); (try (have cRc := bRc.cell 0; have fRc := bRc.frozen 0; simp only [List.getElem?_cons_zero] at cRc))) | fail)
    all_goals (go_wp2; go_meet)
    all_goals first
      | exact putIn.mk0 (AcctsIv.mine hmC) hC
      | exact putIn.mk1 (AcctsIv.mine hmC) bPc (by first | omega | (simp <;> omega)) (by omega) hC
      | exact putIn.mk1 (AcctsIv.mine hmC) bQc (by first | omega | (simp <;> omega)) (by omega) hC
      | exact putIn.mk1 (AcctsIv.mine hmC) bRc (by first | omega | (simp <;> omega)) (by omega) hC
      | (trace_state; fail)
  obtain ⟨gX15, AX15, cX15, rfl, rfl, hbkX15, hrdX15, hbl, hleX15⟩ := hcut
  obtain ⟨w120, hw120⟩ : ∃ w120, w120 = wc := ⟨_, rfl⟩
  subst hw120
  have zz120 : w119.heap.size ≤ w120.heap.size := hbl.size
  have hB20 := hB19.trans (hbl.mono (show w.heap.size + 2 ≤ _ by omega))
  replace HX0 := Lib.hid (Rep.below (R := AcctsR) HX0.out hbl (by omega))
  replace HX1 := Lib.hid (Rep.below (R := AcctR) HX1.out hbl (by omega))
  replace X6 := Lib.hid ((hbl.block _ (by omega)).trans X6.out)
  replace W6 := Lib.hid (Rep.below (R := AcctsR) W6.out hbl (by omega))
  replace X4 := Lib.hid ((hbl.block _ (by omega)).trans X4.out)
  replace X5 := Lib.hid ((hbl.block _ (by omega)).trans X5.out)
  replace XG := Lib.hid ((hbl.block _ (by omega)).trans XG.out)
  replace HM := Lib.hid (AcctsIv.below HM.out hbl (by omega))
  clear x_0 x_1 x_2 x_3 x_4 x_5 x_6 x_7 x_8 x_9 x_10 x_11
  obtain ⟨x_0, x_1, x_2, x_3, x_4, x_5, x_6, x_7, x_8, x_9, x_10, x_11⟩ := HX.out w120 hB20
  have zgX15 := hbkX15.lt
  have X15 := Lib.hid hbkX15
  have W15 := Lib.hid hrdX15
  clear hbkX15 hrdX15 hbl hD hD1 zD HT0 HT1
  clear X6c0
  clear X4c0
  clear X5c0 X5c1 X5c2 X5c3 X5c4 X5c5 X5c6 X5c7 X5c8 X5c9 X5c10
  clear XGc0
  have X6c0 := cell_of_row _ _ 0 _ _ (0, 0) X6.out
  simp only [List.getElem?_toArray, List.getElem?_cons_zero] at X6c0
  have X4c0 := cell_of_row _ _ 0 _ _ (0, 0) X4.out
  simp only [List.getElem?_toArray, List.getElem?_cons_zero] at X4c0
  have X5c0 := cell_of_row _ _ 0 _ _ (0, 0) X5.out
  have X5c1 := cell_of_row _ _ 1 _ _ (0, 0) X5.out
  have X5c2 := cell_of_row _ _ 2 _ _ (0, 0) X5.out
  have X5c3 := cell_of_row _ _ 3 _ _ (0, 0) X5.out
  have X5c4 := cell_of_row _ _ 4 _ _ (0, 0) X5.out
  have X5c5 := cell_of_row _ _ 5 _ _ (0, 0) X5.out
  have X5c6 := cell_of_row _ _ 6 _ _ (0, 0) X5.out
  have X5c7 := cell_of_row _ _ 7 _ _ (0, 0) X5.out
  have X5c8 := cell_of_row _ _ 8 _ _ (0, 0) X5.out
  have X5c9 := cell_of_row _ _ 9 _ _ (0, 0) X5.out
  have X5c10 := cell_of_row _ _ 10 _ _ (0, 0) X5.out
  simp only [List.getElem?_toArray, List.getElem?_cons_zero, List.getElem?_cons_succ] at X5c0 X5c1 X5c2 X5c3 X5c4 X5c5 X5c6 X5c7 X5c8 X5c9 X5c10
  have XGc0 := cell_of_row _ _ 0 _ _ (0, 0) XG.out
  simp only [List.getElem?_toArray, List.getElem?_cons_zero] at XGc0
  have X15c0 := cell_of_row _ _ 0 _ _ (0, 0) X15.out
  simp only [List.getElem?_toArray, List.getElem?_cons_zero] at X15c0
  go_wp2_with fail
  refine (eqBook_any _ _ _ _ PR.1 w120 HS9.out W15.out W6.out (by omega) (by omega)).mono ?_
  rintro e w121 ⟨rfl, hb21⟩
  have zz121 : w120.heap.size ≤ w121.heap.size := hb21.size
  have hB21 := hB20.trans (hb21.mono (show w.heap.size + 2 ≤ _ by omega))
  replace HX0 := Lib.hid (Rep.below (R := AcctsR) HX0.out hb21 (by omega))
  replace HX1 := Lib.hid (Rep.below (R := AcctR) HX1.out hb21 (by omega))
  replace X6 := Lib.hid ((hb21.block _ (by omega)).trans X6.out)
  replace W6 := Lib.hid (Rep.below (R := AcctsR) W6.out hb21 (by omega))
  replace X4 := Lib.hid ((hb21.block _ (by omega)).trans X4.out)
  replace X5 := Lib.hid ((hb21.block _ (by omega)).trans X5.out)
  replace XG := Lib.hid ((hb21.block _ (by omega)).trans XG.out)
  replace HM := Lib.hid (AcctsIv.below HM.out hb21 (by omega))
  replace X15 := Lib.hid ((hb21.block _ (by omega)).trans X15.out)
  replace W15 := Lib.hid (Rep.below (R := AcctsR) W15.out hb21 (by omega))
  clear x_0 x_1 x_2 x_3 x_4 x_5 x_6 x_7 x_8 x_9 x_10 x_11
  obtain ⟨x_0, x_1, x_2, x_3, x_4, x_5, x_6, x_7, x_8, x_9, x_10, x_11⟩ := HX.out w121 hB21
  clear X6c0
  clear X4c0
  clear X5c0 X5c1 X5c2 X5c3 X5c4 X5c5 X5c6 X5c7 X5c8 X5c9 X5c10
  clear XGc0
  clear X15c0
  have X6c0 := cell_of_row _ _ 0 _ _ (0, 0) X6.out
  simp only [List.getElem?_toArray, List.getElem?_cons_zero] at X6c0
  have X4c0 := cell_of_row _ _ 0 _ _ (0, 0) X4.out
  simp only [List.getElem?_toArray, List.getElem?_cons_zero] at X4c0
  have X5c0 := cell_of_row _ _ 0 _ _ (0, 0) X5.out
  have X5c1 := cell_of_row _ _ 1 _ _ (0, 0) X5.out
  have X5c2 := cell_of_row _ _ 2 _ _ (0, 0) X5.out
  have X5c3 := cell_of_row _ _ 3 _ _ (0, 0) X5.out
  have X5c4 := cell_of_row _ _ 4 _ _ (0, 0) X5.out
  have X5c5 := cell_of_row _ _ 5 _ _ (0, 0) X5.out
  have X5c6 := cell_of_row _ _ 6 _ _ (0, 0) X5.out
  have X5c7 := cell_of_row _ _ 7 _ _ (0, 0) X5.out
  have X5c8 := cell_of_row _ _ 8 _ _ (0, 0) X5.out
  have X5c9 := cell_of_row _ _ 9 _ _ (0, 0) X5.out
  have X5c10 := cell_of_row _ _ 10 _ _ (0, 0) X5.out
  simp only [List.getElem?_toArray, List.getElem?_cons_zero, List.getElem?_cons_succ] at X5c0 X5c1 X5c2 X5c3 X5c4 X5c5 X5c6 X5c7 X5c8 X5c9 X5c10
  have XGc0 := cell_of_row _ _ 0 _ _ (0, 0) XG.out
  simp only [List.getElem?_toArray, List.getElem?_cons_zero] at XGc0
  have X15c0 := cell_of_row _ _ 0 _ _ (0, 0) X15.out
  simp only [List.getElem?_toArray, List.getElem?_cons_zero] at X15c0
  go_wp2_with fail
  refine (HHE.out w121 _ _ (AcctsIv.rd HM.out) (by omega)).mono ?_
  rintro e w122 ⟨rfl, hb22⟩
  have zz122 : w121.heap.size ≤ w122.heap.size := hb22.size
  have hB22 := hB21.trans (hb22.mono (show w.heap.size + 2 ≤ _ by omega))
  replace HX0 := Lib.hid (Rep.below (R := AcctsR) HX0.out hb22 (by omega))
  replace HX1 := Lib.hid (Rep.below (R := AcctR) HX1.out hb22 (by omega))
  replace X6 := Lib.hid ((hb22.block _ (by omega)).trans X6.out)
  replace W6 := Lib.hid (Rep.below (R := AcctsR) W6.out hb22 (by omega))
  replace X4 := Lib.hid ((hb22.block _ (by omega)).trans X4.out)
  replace X5 := Lib.hid ((hb22.block _ (by omega)).trans X5.out)
  replace XG := Lib.hid ((hb22.block _ (by omega)).trans XG.out)
  replace HM := Lib.hid (AcctsIv.below HM.out hb22 (by omega))
  replace X15 := Lib.hid ((hb22.block _ (by omega)).trans X15.out)
  replace W15 := Lib.hid (Rep.below (R := AcctsR) W15.out hb22 (by omega))
  clear x_0 x_1 x_2 x_3 x_4 x_5 x_6 x_7 x_8 x_9 x_10 x_11
  obtain ⟨x_0, x_1, x_2, x_3, x_4, x_5, x_6, x_7, x_8, x_9, x_10, x_11⟩ := HX.out w122 hB22
  clear X6c0
  clear X4c0
  clear X5c0 X5c1 X5c2 X5c3 X5c4 X5c5 X5c6 X5c7 X5c8 X5c9 X5c10
  clear XGc0
  clear X15c0
  have X6c0 := cell_of_row _ _ 0 _ _ (0, 0) X6.out
  simp only [List.getElem?_toArray, List.getElem?_cons_zero] at X6c0
  have X4c0 := cell_of_row _ _ 0 _ _ (0, 0) X4.out
  simp only [List.getElem?_toArray, List.getElem?_cons_zero] at X4c0
  have X5c0 := cell_of_row _ _ 0 _ _ (0, 0) X5.out
  have X5c1 := cell_of_row _ _ 1 _ _ (0, 0) X5.out
  have X5c2 := cell_of_row _ _ 2 _ _ (0, 0) X5.out
  have X5c3 := cell_of_row _ _ 3 _ _ (0, 0) X5.out
  have X5c4 := cell_of_row _ _ 4 _ _ (0, 0) X5.out
  have X5c5 := cell_of_row _ _ 5 _ _ (0, 0) X5.out
  have X5c6 := cell_of_row _ _ 6 _ _ (0, 0) X5.out
  have X5c7 := cell_of_row _ _ 7 _ _ (0, 0) X5.out
  have X5c8 := cell_of_row _ _ 8 _ _ (0, 0) X5.out
  have X5c9 := cell_of_row _ _ 9 _ _ (0, 0) X5.out
  have X5c10 := cell_of_row _ _ 10 _ _ (0, 0) X5.out
  simp only [List.getElem?_toArray, List.getElem?_cons_zero, List.getElem?_cons_succ] at X5c0 X5c1 X5c2 X5c3 X5c4 X5c5 X5c6 X5c7 X5c8 X5c9 X5c10
  have XGc0 := cell_of_row _ _ 0 _ _ (0, 0) XG.out
  simp only [List.getElem?_toArray, List.getElem?_cons_zero] at XGc0
  have X15c0 := cell_of_row _ _ 0 _ _ (0, 0) X15.out
  simp only [List.getElem?_toArray, List.getElem?_cons_zero] at X15c0
  go_wp2
  go_ret
  exact ⟨rfl, (HB0.out.trans (hB22.mono (by first | omega | (simp <;> omega))))⟩

set_option maxRecDepth 100000 in
theorem t0 : (Tryz.prog.globals[0]?).map (·.type) = some 142 := by kernel_rfl
set_option maxRecDepth 100000 in
theorem g0 : Tryz.prog.globalNamed "loop.example/g00735/impl.errNotMoney" = some 0 := by kernel_rfl
set_option maxRecDepth 100000 in
theorem cellsE : Tryz.prog.cellsOf 200 = 1 := by kernel_rfl
set_option maxRecDepth 100000 in
theorem cellsS : Tryz.prog.cellsOf 9 = 1 := by kernel_rfl
set_option maxRecDepth 100000 in
theorem star : "*" ++ "errors.errorString" = "*errors.errorString" := by decide
set_option maxRecDepth 100000 in
theorem rowE (u : TypeId) (h : Tryz.prog.typeName? 3 u = some "*errors.errorString") : u = 178 :=
  typeName_ptr_named (nm := "errors.errorString") (by rw [star]; kernel_rfl) (by kernel_rfl) (by decide) u (by rw [star]; exact h)
set_option maxRecDepth 100000 in
theorem gH : Tryz.prog.globalNamed "errors.errorType" = some 1 := by kernel_rfl
set_option maxRecDepth 100000 in
theorem rtH : (Tryz.prog.cutTypes.find? (·.1 == "internal/reflectlite.rtype")).map (·.2) = some 165 := by kernel_rfl
set_option maxRecDepth 100000 in
theorem oneH : ((List.range Tryz.prog.types.size).filter fun t => Tryz.prog.rowNamed t [101, 114, 114, 111, 114]) = [142] := by kernel_rfl
set_option maxRecDepth 100000 in
theorem handle_of {W : World} (h : handlesMet Tryz.prog [("errors.errorType", Rows.laid_errors_errorType)] W) : W.cell? ⟨1, 0, none⟩ = some (.iface 165 (.agg #[.pointer (some ⟨2, 142, none⟩)])) := by
  obtain ⟨name, u, ty, e1, e2, e3, e4, e5⟩ := h _ (List.mem_singleton.2 rfl)
  have en : name = [101, 114, 114, 111, 114] := (Option.some.inj e1).symm
  subst en
  obtain rfl := Option.some.inj (rtH.symm.trans e2)
  have hm : ty ∈ (List.range Tryz.prog.types.size).filter fun t => Tryz.prog.rowNamed t [101, 114, 114, 111, 114] := List.mem_filter.2 ⟨List.mem_range.2 e3, e4⟩
  rw [oneH] at hm
  obtain rfl := List.mem_singleton.1 hm
  have hh : typeHandle Tryz.prog 142 = .pointer (some ⟨2, 142, none⟩) := by kernel_rfl
  rw [hh] at e5
  simpa using World.var?_cell gH e5 0

set_option maxRecDepth 100000 in
theorem laidOut : laidOutB Tryz.prog = true := by kernel_rfl
set_option maxRecDepth 100000 in
theorem rowed : allRowed Tryz.prog Tryz.f5.params.toList = true := by kernel_rfl
set_option maxRecDepth 100000 in
theorem resT : Tryz.f5.resultTypes = #[4] := by kernel_rfl
set_option maxRecDepth 100000 in
theorem door_met (os : Os) (args : Array Value) : laidMetH Tryz.prog Rows.fnExactBookPutRow.laid ((World.doorLaid Tryz.prog 400 os).forCall (fun _ _ => 0) ⟨#[], args, []⟩).memory :=
  laidMetH_of_parts3 (fuel := 8) (laidMet_of_run' 8 (by kernel_rfl) (by kernel_rfl)) (by kernel_rfl) (by kernel_rfl)

set_option maxRecDepth 100000 in
theorem lifted (os : Os) (started : os.Started) (H : Type) (enc : TypeId × Value → H) :
    ReturnsInHanded {} Tryz.checked os 5 .any (fun w args => (Rows.fnExactBookPutSpec.pre enc Tryz.prog Tryz.f5 [] false w args ∧ laidMetH Tryz.prog Rows.fnExactBookPutRow.laid w) ∧ sizedMet enc Tryz.prog Tryz.f5 (OpenSpec.ofChange Rows.fnExactBookPutSpec) false w args)
      (Rows.fnExactBookPutSpec.post enc Tryz.prog Tryz.f5 false true false false) := by
  refine returnsInHanded_of_change_and (C := Tryz.checked) (X := fun w _ => laidMetH Tryz.prog Rows.fnExactBookPutRow.laid w) (fun _ _ _ hh h => h.of_heap hh) own started (by kernel_rfl) Tryz.func5
    (ChangeSpec.witness_shaped (enc := enc) (C := Tryz.checked) (os := os) (X := fun w _ => laidMetH Tryz.prog Rows.fnExactBookPutRow.laid w) false (World.doorLaid Tryz.prog 400 os) #[.agg #[.slice none 0 0], .agg #[.string ByteArray.empty, .int .i64 0, .int .i64 0, .int .i64 0, .int .i64 0, .slice none 0 0, .int .i64 0, .int .i64 0, .slice none 0 0, .slice none 0 0, .slice none 0 0]] 8 rfl (World.shaped_of_RefB (by kernel_rfl) (by kernel_rfl)) (by kernel_rfl) (by kernel_rfl) (by kernel_rfl) (door_met os _)) ?_
  intro W base args ds gs before hval0 hW _ _ hL0 _
  have hval : ∀ (j : Nat) t v, Tryz.f5.params[j]? = some t → args[j]? = some v → Value.okWide Tryz.prog W .any base t v := hval0
  have hW' := hW
  obtain ⟨p, q, hA0, hV, rfl, hfz, hnd⟩ := hW
  have hA : DataW.TrodAll enc Tryz.prog W 0 (fun _ => true) true Tryz.f5.params.toList args.toList ds p := hA0
  rw [Tryz.params5] at hA hval
  have hh := handle_of hL0.2
  have hL : laidMet Tryz.prog [("loop.example/g00735/impl.errNotMoney", Rows.laid_loop_example_g00735_impl_errNotMoney)] W := hL0.1
  obtain ⟨b0, s0, hv0, _, _, _⟩ := laid_sentinel hL g0 t0 Tryz.underlying142 rowE Tryz.underlying178 Tryz.underlying200 rfl rfl Tryz.underlying9 cellsE cellsS
  have hc0 : W.cell? ⟨0, 0, none⟩ = some (.iface 178 (.pointer (some b0))) := by simpa using World.var?_cell g0 hv0 0
  have hlt0 : 0 < W.heap.size := by
    rcases Nat.lt_or_ge 0 W.heap.size with h | h
    · exact h
    · simp [World.cell?, Array.getElem?_eq_none h] at hc0
  obtain ⟨v0, vs0, d0, ds0, p0, q0, hargs, rfl, rfl, h0, r0⟩ := trodAll_cons hA
  obtain ⟨v1, vs1, d1, ds1, p1, q1, rfl, rfl, rfl, h1, r1⟩ := trodAll_cons r0
  obtain ⟨rfl, rfl, rfl⟩ := trodAll_nil r1
  obtain rfl : args = #[v0, v1] := by cases args; simp_all
  obtain ⟨rfl, rfl⟩ := hV.unique (vars_read1 enc g0 t0 Tryz.underlying142 hv0 trivial _)
  obtain ⟨l0, vb0, rfl, w0, z0⟩ := open_book (hval 0 24 v0 rfl rfl) h0
  obtain ⟨a1, vh1, vc1, vs1, vl1, rfl, w1, z1⟩ := open_acct (hval 1 42 v1 rfl rfl) h1
  clear hA0 hval0
  refine (walk W _ hc0 hh _ _ _ _ _ _ _ w0 z0 w1 z1).mono fun e W' ⟨he, hg⟩ => ?_
  subst he
  exact ⟨_, rfl, post_true laidOut rowed hW' rfl resT Tryz.underlying4 hg (vars_read1 enc g0 t0 Tryz.underlying142 (var?_below hg g0 hlt0 hv0) trivial _)⟩

set_option maxRecDepth 100000 in
theorem over : Rows.fnExactBookPutRow.holds Tryz.pinned (OpenSpec.ofChange Rows.fnExactBookPutSpec) :=
  OpenClaim.holds_of_wide 5 Tryz.f5 rfl rfl rfl rfl rfl rfl rfl ⟨rfl, rfl, rfl, rfl, rfl⟩ rfl rfl rfl rfl rfl (by kernel_rfl) Tryz.func5 (by kernel_rfl)
    (of_decide_eq_true (by kernel_rfl)) (by unfold Func.isWrapper; first | (rw [if_pos (by decide +kernel)]; kernel_rfl) | (rw [if_neg (by decide +kernel)]; exact ⟨rfl, rfl⟩))
    (fun os started H enc _ => lifted os started H enc)

set_option maxRecDepth 100000 in
theorem said : Rows.FnExactBookPutSaid :=
  over

set_option maxRecDepth 100000 in
theorem plain (f : FuncId) (fn : Func) (hf : Tryz.pinned.checked.prog.funcNamed "loop.example/g00735/laws.FnExactBookPut" = some f) (hfn : Tryz.pinned.checked.prog.funcs[f]? = some fn) :
    Rows.fnExactBookPutCard.stood.looks = Tryz.pinned.checked.prog.looks [] ∧ ∀ (j : Nat) t, fn.params[j]? = some t → Tryz.pinned.checked.prog.wantsStandIn t = false := by
  obtain rfl : f = 5 := Option.some.inj ((show Tryz.prog.funcNamed "loop.example/g00735/laws.FnExactBookPut" = some 5 by kernel_rfl).symm.trans hf) |>.symm
  obtain rfl : fn = Tryz.f5 := (Option.some.inj (Tryz.func5.symm.trans hfn)).symm
  refine ⟨by kernel_rfl, fun j t ht => ?_⟩
  rw [Tryz.params5] at ht
  have hm : t ∈ [24, 42] := by simpa using Array.mem_of_getElem? ht
  have hall : ([24, 42].all fun u => !Tryz.prog.wantsStandIn u) = true := by kernel_rfl
  exact (show Tryz.prog.wantsStandIn t = false by simpa using List.all_eq_true.1 hall t hm)

set_option maxRecDepth 100000 in
theorem proved : Rows.FnExactBookPutCardSaid :=
  Claim7.holds_tied_plain_at .later [] _ _ _ _ said (fun _ h => by cases h) (by kernel_rfl) (fun _ h => by cases h) fnExactBookPut_row_tie rfl ⟨rfl, rfl⟩ (by kernel_rfl) rfl plain (by kernel_rfl)
#print axioms proved
end Go.Proofs.YthnimmagaocipaaGreatDoor.fnExactBookPut
