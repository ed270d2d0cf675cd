/- FnWith: for every argument the law answers true: the program's function returns what the reference returns; the listed package variables hold what the program's text lays (tied). -/
import Derived.Test.YtkkbhlaakhkjnaaGreatDoorPost
import Derived.Test.YtkkbhlaakhkjnaaGreatDoorOpenB
import Derived.Test.YtkkbhlaakhkjnaaGreatDoorCards
import Derived.Test.YtkkbhlaakhkjnaaGreatDoorTie
import Derived.Stop.LaidErr
import Derived.LaidMore
import Derived.Stop.Joined
import Derived.SevenTiedAt
import Derived.WalkSmall
import Derived.Lib.LaidTab
import Derived.Lib.ItoaNum
import Derived.Test.YtkkbhlaakhkjnaaGreatDoorMrg3
import Derived.Test.YtkkbhlaakhkjnaaGreatDoorMrg4
import Derived.Test.YtkkbhlaakhkjnaaGreatDoorMrgSmall
import Derived.Test.YtkkbhlaakhkjnaaGreatDoorDoorZ
namespace Go.Proofs.YtkkbhlaakhkjnaaGreatDoor.fnWith
open Go.ChangeShapes Go.WideShapes Go.ChangeAt Go.RowKit
open Go.WideMaps Go.WideElems
open Go.ChangeMaps (open_string shut_string)
set_option linter.unusedVariables false

set_option maxRecDepth 100000 in
set_option maxHeartbeats 8000000 in
theorem walk (w : World) (p0 : Addr) (hc0 : w.cell? ⟨1, 0, none⟩ = some (.iface 183 (.pointer (some p0)))) (htab : Lib.TabIs Tryz.prog w "internal/strconv.uint64pow10" .u64 Lib.pow10Tab) (a0 : Value) (s0 : ∃ ao len cap, a0 = .slice ao len cap) (w0 : readable w w.heap.size a0) :
    Calls Tryz.prog 8 #[a0] w fun e w' => e = .returned (.bool true) ∧ Below w.heap.size w w' := by
  have HB0 : Hid (Below w.heap.size w w) := Lib.hid (Below.refl _ _)
  have hB0 : Below w.heap.size w w := Below.refl _ _
  obtain ⟨ao, len, cap, rfl⟩ := s0
  by_cases hbig : (1048576 : Int) < (len : Int)
  · clear w0
    go_enter Tryz.func8, Tryz.ntmps8
    go_wp2
    go_ret
    exact ⟨rfl, HB0.out⟩
  have hlen : lenOf (.slice ao len cap) ≤ 1048576 := by show len ≤ 1048576; omega
  have HRD := Lib.hid w0
  clear hc0 htab w0
  go_enter Tryz.func8, Tryz.ntmps8
  go_wp2_with fail
  refine (makeMsg_any _ w HRD.out hlen).mono ?_
  rintro e w1 ⟨m, u1, rfl, hok, hu1, hb1⟩
  obtain ⟨A1, c1, rfl, -⟩ := Rep.slice_form hu1.rd
  have z1 : w.heap.size ≤ w1.heap.size := hb1.size
  have hB1 := hB0.trans (hb1.mono (show w.heap.size ≤ _ by omega))
  have HM := Lib.hid hu1
  have HOK := Lib.hid hok
  obtain ⟨hsz, hml, hms, hmx⟩ := ok_small hok
  have HMS := Lib.hid hmx
  clear hok hms hmx
  go_wp2_with fail
  have hb2 := (Below.refl w1.heap.size w1).alloc (Nat.le_refl _) (.cells #[.string m.1, .slice A1 m.2.length c1] 31)
  have hXM := heap_alloc_new w1 (.cells #[.string m.1, .slice A1 m.2.length c1] 31)
  generalize w1.alloc (.cells #[.string m.1, .slice A1 m.2.length c1] 31) = w2 at hb2 hXM ⊢
  have z2 : w1.heap.size ≤ w2.heap.size := hb2.size
  have zl2 : w1.heap.size < w2.heap.size := lt_of_block hXM
  have hB2 := hB1.trans (hb2.mono (show w.heap.size ≤ _ by omega))
  replace HM := Lib.hid (HM.out.below hb2 (by omega))
  have XM := Lib.hid hXM
  clear hXM
  have XMc0 := cell_of_row _ _ 0 _ _ (0, 0) XM.out
  have XMc1 := cell_of_row _ _ 1 _ _ (0, 0) XM.out
  simp only [List.getElem?_toArray, List.getElem?_cons_zero, List.getElem?_cons_succ] at XMc0 XMc1
  go_wp2_with fail
  refine (makeField_any _ w2 ((HRD.out.below (HB0.out.trans (hB2.mono (by omega)))).le (by omega)) hlen).mono ?_
  rintro e w3 ⟨no, s, rfl, hno, hfo, hb3⟩
  clear hno
  have z3 : w2.heap.size ≤ w3.heap.size := hb3.size
  have hB3 := hB2.trans (hb3.mono (show w.heap.size ≤ _ by omega))
  replace HM := Lib.hid (HM.out.below hb3 (by omega))
  replace XM := Lib.hid ((hb3.block _ (by omega)).trans XM.out)
  clear XMc0 XMc1
  have XMc0 := cell_of_row _ _ 0 _ _ (0, 0) XM.out
  have XMc1 := cell_of_row _ _ 1 _ _ (0, 0) XM.out
  simp only [List.getElem?_toArray, List.getElem?_cons_zero, List.getElem?_cons_succ] at XMc0 XMc1
  have HFO := Lib.hid hfo
  have hss := fOk_60 hfo
  have HSS : Hid (s.size ≤ maxLen) := Lib.hid (by unfold maxLen; omega)
  have hwo : withOk m no s = true := by unfold withOk; rw [HOK.out, hfo]; rfl
  have hwm : withMsg m no s = (m.1, withF no s m.2) := by unfold withMsg; rw [if_pos hwo]
  have hxo := withMsg_ok hwo
  rw [hwm] at hxo
  have HXO := Lib.hid hxo
  obtain ⟨-, hxl, -, hxx⟩ := ok_small hxo
  have HXX := Lib.hid hxx
  have hasc : asc m.2 := by have h := HOK.out; unfold msgOk at h; rw [Bool.and_eq_true] at h; exact (listOk_all h.2).2
  obtain ⟨hf1, hf2⟩ := with_found hasc no s
  have HWW := Lib.hid (without_with hasc no s)
  have HWO := Lib.hid hwo
  have HWM := Lib.hid hwm
  have HF1 := Lib.hid hf1
  have HF2 := Lib.hid hf2
  clear hfo hwo hwm hxo hxx hasc hf1 hf2
  go_wp2_with fail
  refine (implWithField_any _ _ m no s w3 (by unfold maxLen; omega) (by omega) HMS.out HSS.out HM.out.rd (by omega)).mono ?_
  rintro e w4 ⟨u4, rfl, hu4, hb4⟩
  rw [HWM.out] at hu4 ⊢
  rw [HWO.out]
  obtain ⟨A4, c4, rfl, -⟩ := Rep.slice_form hu4.rd
  have z4 : w3.heap.size ≤ w4.heap.size := hb4.size
  have hB4 := hB3.trans (hb4.mono (show w.heap.size ≤ _ by omega))
  replace HM := Lib.hid (HM.out.below hb4 (by omega))
  replace XM := Lib.hid ((hb4.block _ (by omega)).trans XM.out)
  have HX1 := Lib.hid hu4
  clear XMc0 XMc1
  have XMc0 := cell_of_row _ _ 0 _ _ (0, 0) XM.out
  have XMc1 := cell_of_row _ _ 1 _ _ (0, 0) XM.out
  simp only [List.getElem?_toArray, List.getElem?_cons_zero, List.getElem?_cons_succ] at XMc0 XMc1
  have HYO := Lib.hid (without_ok no HXO.out)
  generalize withF no s m.2 = XL at HX1 HXO HXX hxl HWW HF1 HF2 HWM HYO ⊢
  have yy4XM : w1.heap.size < w4.heap.size := by omega
  go_wp2_with fail
  have hb5 := (Below.refl w4.heap.size w4).alloc (Nat.le_refl _) (.cells #[.string m.1, .slice A4 XL.length c4] 31)
  have hXX := heap_alloc_new w4 (.cells #[.string m.1, .slice A4 XL.length c4] 31)
  generalize w4.alloc (.cells #[.string m.1, .slice A4 XL.length c4] 31) = w5 at hb5 hXX ⊢
  have z5 : w4.heap.size ≤ w5.heap.size := hb5.size
  have zl5 : w4.heap.size < w5.heap.size := lt_of_block hXX
  have hB5 := hB4.trans (hb5.mono (show w.heap.size ≤ _ by omega))
  replace HM := Lib.hid (HM.out.below hb5 (by omega))
  replace XM := Lib.hid ((hb5.block _ (by omega)).trans XM.out)
  replace HX1 := Lib.hid (HX1.out.below hb5 (by omega))
  have XX := Lib.hid hXX
  clear hXX
  have XXc0 := cell_of_row _ _ 0 _ _ (0, 0) XX.out
  have XXc1 := cell_of_row _ _ 1 _ _ (0, 0) XX.out
  simp only [List.getElem?_toArray, List.getElem?_cons_zero, List.getElem?_cons_succ] at XXc0 XXc1
  go_wp2_with fail
  refine (implFieldOf_any _ _ (m.1, XL) no w5 (show XL.length ≤ _ by omega) HX1.out.rd (by omega)).mono ?_
  rintro e w6 ⟨rfl, hb6⟩
  rw [show fldTxt (m.1, XL).2 no = s from HF2.out, show fldHas (m.1, XL).2 no = true from HF1.out]
  have z6 : w5.heap.size ≤ w6.heap.size := hb6.size
  have hB6 := hB5.trans (hb6.mono (show w.heap.size ≤ _ by omega))
  replace HM := Lib.hid (HM.out.below hb6 (by omega))
  replace XM := Lib.hid ((hb6.block _ (by omega)).trans XM.out)
  replace HX1 := Lib.hid (HX1.out.below hb6 (by omega))
  replace XX := Lib.hid ((hb6.block _ (by omega)).trans XX.out)
  clear XMc0 XMc1
  clear XXc0 XXc1
  have XMc0 := cell_of_row _ _ 0 _ _ (0, 0) XM.out
  have XMc1 := cell_of_row _ _ 1 _ _ (0, 0) XM.out
  simp only [List.getElem?_toArray, List.getElem?_cons_zero, List.getElem?_cons_succ] at XMc0 XMc1
  have XXc0 := cell_of_row _ _ 0 _ _ (0, 0) XX.out
  have XXc1 := cell_of_row _ _ 1 _ _ (0, 0) XX.out
  simp only [List.getElem?_toArray, List.getElem?_cons_zero, List.getElem?_cons_succ] at XXc0 XXc1
  go_wp2_with fail
  refine (implWithoutField_any _ _ (m.1, XL) no w6 (show XL.length ≤ _ by omega) HX1.out.rd (by omega)).mono ?_
  rintro e w7 ⟨u7, rfl, hu7, hb7⟩
  obtain ⟨A7, c7, rfl, -⟩ := Rep.slice_form hu7.rd
  have z7 : w6.heap.size ≤ w7.heap.size := hb7.size
  have hB7 := hB6.trans (hb7.mono (show w.heap.size ≤ _ by omega))
  replace HM := Lib.hid (HM.out.below hb7 (by omega))
  replace XM := Lib.hid ((hb7.block _ (by omega)).trans XM.out)
  replace HX1 := Lib.hid (HX1.out.below hb7 (by omega))
  replace XX := Lib.hid ((hb7.block _ (by omega)).trans XX.out)
  have HY1 := Lib.hid hu7
  clear XMc0 XMc1
  clear XXc0 XXc1
  have XMc0 := cell_of_row _ _ 0 _ _ (0, 0) XM.out
  have XMc1 := cell_of_row _ _ 1 _ _ (0, 0) XM.out
  simp only [List.getElem?_toArray, List.getElem?_cons_zero, List.getElem?_cons_succ] at XMc0 XMc1
  have XXc0 := cell_of_row _ _ 0 _ _ (0, 0) XX.out
  have XXc1 := cell_of_row _ _ 1 _ _ (0, 0) XX.out
  simp only [List.getElem?_toArray, List.getElem?_cons_zero, List.getElem?_cons_succ] at XXc0 XXc1
  have hyl : (withoutL XL no).length ≤ 102 := (ok_small HYO.out).2.1
  have HYX := Lib.hid (ok_small HYO.out).2.2.2
  have HG := Lib.hid (without_gone XL no)
  change Hid (withoutL XL no = withoutL m.2 no) at HWW
  generalize hyy : withoutL XL no = YL at HY1 HYO HYX HG HWW hyl ⊢
  clear hyy
  have yy7XM : w1.heap.size < w7.heap.size := by omega
  have yy7XX : w4.heap.size < w7.heap.size := by omega
  go_wp2_with fail
  have hb8 := (Below.refl w7.heap.size w7).alloc (Nat.le_refl _) (.cells #[.string m.1, .slice A7 YL.length c7] 31)
  have hXY := heap_alloc_new w7 (.cells #[.string m.1, .slice A7 YL.length c7] 31)
  generalize w7.alloc (.cells #[.string m.1, .slice A7 YL.length c7] 31) = w8 at hb8 hXY ⊢
  have z8 : w7.heap.size ≤ w8.heap.size := hb8.size
  have zl8 : w7.heap.size < w8.heap.size := lt_of_block hXY
  have hB8 := hB7.trans (hb8.mono (show w.heap.size ≤ _ by omega))
  replace HM := Lib.hid (HM.out.below hb8 (by omega))
  replace XM := Lib.hid ((hb8.block _ (by omega)).trans XM.out)
  replace HX1 := Lib.hid (HX1.out.below hb8 (by omega))
  replace XX := Lib.hid ((hb8.block _ (by omega)).trans XX.out)
  replace HY1 := Lib.hid (HY1.out.below hb8 (by omega))
  have XY := Lib.hid hXY
  clear hXY
  have XYc0 := cell_of_row _ _ 0 _ _ (0, 0) XY.out
  have XYc1 := cell_of_row _ _ 1 _ _ (0, 0) XY.out
  simp only [List.getElem?_toArray, List.getElem?_cons_zero, List.getElem?_cons_succ] at XYc0 XYc1
  go_wp2_with fail
  refine (implFieldOf_any _ _ (m.1, YL) no w8 (show YL.length ≤ _ by omega) HY1.out.rd (by omega)).mono ?_
  rintro e w9 ⟨rfl, hb9⟩
  rw [show fldTxt (m.1, YL).2 no = ⟨#[]⟩ from HG.out.2, show fldHas (m.1, YL).2 no = false from HG.out.1]
  have z9 : w8.heap.size ≤ w9.heap.size := hb9.size
  have hB9 := hB8.trans (hb9.mono (show w.heap.size ≤ _ by omega))
  replace HM := Lib.hid (HM.out.below hb9 (by omega))
  replace XM := Lib.hid ((hb9.block _ (by omega)).trans XM.out)
  replace HX1 := Lib.hid (HX1.out.below hb9 (by omega))
  replace XX := Lib.hid ((hb9.block _ (by omega)).trans XX.out)
  replace HY1 := Lib.hid (HY1.out.below hb9 (by omega))
  replace XY := Lib.hid ((hb9.block _ (by omega)).trans XY.out)
  clear XMc0 XMc1
  clear XXc0 XXc1
  clear XYc0 XYc1
  have XMc0 := cell_of_row _ _ 0 _ _ (0, 0) XM.out
  have XMc1 := cell_of_row _ _ 1 _ _ (0, 0) XM.out
  simp only [List.getElem?_toArray, List.getElem?_cons_zero, List.getElem?_cons_succ] at XMc0 XMc1
  have XXc0 := cell_of_row _ _ 0 _ _ (0, 0) XX.out
  have XXc1 := cell_of_row _ _ 1 _ _ (0, 0) XX.out
  simp only [List.getElem?_toArray, List.getElem?_cons_zero, List.getElem?_cons_succ] at XXc0 XXc1
  have XYc0 := cell_of_row _ _ 0 _ _ (0, 0) XY.out
  have XYc1 := cell_of_row _ _ 1 _ _ (0, 0) XY.out
  simp only [List.getElem?_toArray, List.getElem?_cons_zero, List.getElem?_cons_succ] at XYc0 XYc1
  have hBb := (HB0.out.trans (hB9.mono (by omega)))
  go_wp2
  have tok1 : True := trivial
  have hD : Below w9.heap.size w9 w9.drew := below_drew w9 _
  have zD : w9.drew.heap.size = w9.heap.size := rfl
  go_region_held3 (fun V => V.cell? ⟨w4.heap.size, 0, none⟩ = some (.string m.1) ∧ V.cell? ⟨w4.heap.size, 1, none⟩ = some (.slice A4 XL.length c4) ∧ V.cell? ⟨w7.heap.size, 0, none⟩ = some (.string m.1) ∧ V.cell? ⟨w7.heap.size, 1, none⟩ = some (.slice A7 YL.length c7) ∧ V.cell? ⟨w1.heap.size, 0, none⟩ = some (.string m.1) ∧ V.cell? ⟨w1.heap.size, 1, none⟩ = some (.slice A1 m.2.length c1)) (go_keep) (first | (go_at_call 27; have tok2 := tok1; clear tok1; refine (implMsgOk_any _ _ (m.1, XL) w9.drew (show m.1.size ≤ maxLen by unfold maxLen; omega) (show XL.length ≤ _ by omega) HXX.out (HX1.out.below hD (by omega)).rd (by omega)).mono ?_; rw [HXO.out]; rintro e v1 ⟨rfl, hv1⟩; have hv1 : Below w9.heap.size w9.drew v1 := hv1; have y1 : w9.heap.size ≤ v1.heap.size := hv1.size; have qa0 := (hv1.cell (p := ⟨w4.heap.size, 0, none⟩) (show w4.heap.size < _ by omega)).trans XXc0; have qa1 := (hv1.cell (p := ⟨w4.heap.size, 1, none⟩) (show w4.heap.size < _ by omega)).trans XXc1; have qa2 := (hv1.cell (p := ⟨w7.heap.size, 0, none⟩) (show w7.heap.size < _ by omega)).trans XYc0; have qa3 := (hv1.cell (p := ⟨w7.heap.size, 1, none⟩) (show w7.heap.size < _ by omega)).trans XYc1; have qa4 := (hv1.cell (p := ⟨w1.heap.size, 0, none⟩) (show w1.heap.size < _ by omega)).trans XMc0; have qa5 := (hv1.cell (p := ⟨w1.heap.size, 1, none⟩) (show w1.heap.size < _ by omega)).trans XMc1) | (go_at_call 27; refine (implMsgOk_any _ _ (m.1, YL) v1 (show m.1.size ≤ maxLen by unfold maxLen; omega) (show YL.length ≤ _ by omega) HYX.out (HY1.out.below (hD.trans hv1) (by omega)).rd (by omega)).mono ?_; rw [HYO.out]; rintro e v2 ⟨rfl, hv2⟩; have y2 : v1.heap.size ≤ v2.heap.size := hv2.size; have qb0 := (hv2.cell (p := ⟨w4.heap.size, 0, none⟩) (show w4.heap.size < _ by omega)).trans qa0; have qb1 := (hv2.cell (p := ⟨w4.heap.size, 1, none⟩) (show w4.heap.size < _ by omega)).trans qa1; have qb2 := (hv2.cell (p := ⟨w7.heap.size, 0, none⟩) (show w7.heap.size < _ by omega)).trans qa2; have qb3 := (hv2.cell (p := ⟨w7.heap.size, 1, none⟩) (show w7.heap.size < _ by omega)).trans qa3; have qb4 := (hv2.cell (p := ⟨w1.heap.size, 0, none⟩) (show w1.heap.size < _ by omega)).trans qa4; have qb5 := (hv2.cell (p := ⟨w1.heap.size, 1, none⟩) (show w1.heap.size < _ by omega)).trans qa5) | (go_at_call 30; refine (implWithoutField_any _ _ m no v2 (by omega) ((HM.out.below (hD.trans hv1) (by omega)).below hv2 (by omega)).rd (by omega)).mono ?_; rintro e v3 ⟨u3, rfl, hu3, hv3⟩; have y3 : v2.heap.size ≤ v3.heap.size := hv3.size; obtain ⟨A3, c3, rfl, -⟩ := Rep.slice_form hu3.rd; have qc0 := (hv3.cell (p := ⟨w4.heap.size, 0, none⟩) (show w4.heap.size < _ by omega)).trans qb0; have qc1 := (hv3.cell (p := ⟨w4.heap.size, 1, none⟩) (show w4.heap.size < _ by omega)).trans qb1; have qc2 := (hv3.cell (p := ⟨w7.heap.size, 0, none⟩) (show w7.heap.size < _ by omega)).trans qb2; have qc3 := (hv3.cell (p := ⟨w7.heap.size, 1, none⟩) (show w7.heap.size < _ by omega)).trans qb3; have qc4 := (hv3.cell (p := ⟨w1.heap.size, 0, none⟩) (show w1.heap.size < _ by omega)).trans qb4; have qc5 := (hv3.cell (p := ⟨w1.heap.size, 1, none⟩) (show w1.heap.size < _ by omega)).trans qb5) | (go_at_call 25; refine (implMsgSame_any _ _ _ _ (m.1, YL) (m.1, withoutL m.2 no) v3 (show YL.length ≤ _ by omega) (show (withoutL m.2 no).length ≤ _ by rw [← HWW.out]; omega) (((HY1.out.below (hD.trans hv1) (by omega)).below hv2 (by omega)).below hv3 (by omega)).rd hu3.rd (by omega) (Nat.le_refl _)).mono ?_; rw [HWW.out]; rintro e v4 ⟨rfl, hv4⟩; have y4 : v3.heap.size ≤ v4.heap.size := hv4.size; have qd0 := (hv4.cell (p := ⟨w4.heap.size, 0, none⟩) (show w4.heap.size < _ by omega)).trans qc0; have qd1 := (hv4.cell (p := ⟨w4.heap.size, 1, none⟩) (show w4.heap.size < _ by omega)).trans qc1; have qd2 := (hv4.cell (p := ⟨w7.heap.size, 0, none⟩) (show w7.heap.size < _ by omega)).trans qc2; have qd3 := (hv4.cell (p := ⟨w7.heap.size, 1, none⟩) (show w7.heap.size < _ by omega)).trans qc3; have qd4 := (hv4.cell (p := ⟨w1.heap.size, 0, none⟩) (show w1.heap.size < _ by omega)).trans qc4; have qd5 := (hv4.cell (p := ⟨w1.heap.size, 1, none⟩) (show w1.heap.size < _ by omega)).trans qc5))
  have hbx : Below w9.heap.size w9 v4 := (((hD.trans hv1).trans (hv2.mono (by omega))).trans (hv3.mono (by omega))).trans (hv4.mono (by omega))
  have HBF := Lib.hid (hBb.trans (hbx.mono (show w.heap.size ≤ _ by omega)))
  clear hbx hv1 hv2 hv3 hv4 hu3 hD
  go_wp2
  go_ret
  exact ⟨rfl, HBF.out⟩

open Go.Proofs.YtkkbhlaakhkjnaaGreatDoor.doorz
set_option maxRecDepth 100000 in
theorem rowed : allRowed Tryz.prog Tryz.f8.params.toList = true := by kernel_rfl
set_option maxRecDepth 100000 in
theorem resT : Tryz.f8.resultTypes = #[4] := by kernel_rfl
set_option maxRecDepth 100000 in
theorem door_met (os : Os) (args : Array Value) : laidMetH Tryz.prog Rows.fnWithRow.laid ((World.doorLaid Tryz.prog 400 os).forCall (fun _ _ => 0) ⟨#[], args, []⟩).memory := met os args

set_option maxRecDepth 100000 in
theorem lifted (os : Os) (started : os.Started) (H : Type) (enc : TypeId × Value → H) :
    ReturnsInHanded {} Tryz.checked os 8 .any (fun w args => (Rows.fnWithSpec.pre enc Tryz.prog Tryz.f8 [] false w args ∧ laidMetH Tryz.prog Rows.fnWithRow.laid w) ∧ sizedMet enc Tryz.prog Tryz.f8 (OpenSpec.ofChange Rows.fnWithSpec) false w args)
      (Rows.fnWithSpec.post enc Tryz.prog Tryz.f8 false true false false) := by
  refine returnsInHanded_of_change_and (C := Tryz.checked) (X := fun w _ => laidMetH Tryz.prog Rows.fnWithRow.laid w) (fun _ _ _ hh h => h.of_heap hh) own started (by kernel_rfl) Tryz.func8
    (ChangeSpec.witness_shaped (enc := enc) (C := Tryz.checked) (os := os) (X := fun w _ => laidMetH Tryz.prog Rows.fnWithRow.laid w) false (World.doorLaid Tryz.prog 400 os) #[.slice none 0 0] 8 rfl (shaped os _) (by kernel_rfl) (by kernel_rfl) (by kernel_rfl) (door_met os _)) ?_
  intro W base args ds gs before hval0 hW _ _ hL0 _
  have hval : ∀ (j : Nat) t v, Tryz.f8.params[j]? = some t → args[j]? = some v → Value.okWide Tryz.prog W .any base t v := hval0
  have hW' := hW
  obtain ⟨p, q, hA0, hV, rfl, hfz, hnd⟩ := hW
  have hA : DataW.TrodAll enc Tryz.prog W 0 (fun _ => true) true Tryz.f8.params.toList args.toList ds p := hA0
  rw [Tryz.params8] at hA hval
  have hL := hL0
  rw [MakeChecks.laidMetH_plain _ _ _ (by kernel_rfl)] at hL
  obtain ⟨b0, s0, hv0, _, _, _⟩ := laid_sentinel hL.tail.tail.tail g0 t0 Tryz.underlying151 rowE Tryz.underlying183 Tryz.underlying197 rfl rfl Tryz.underlying9 cellsE cellsS
  have hc0 : W.cell? ⟨1, 0, none⟩ = some (.iface 183 (.pointer (some b0))) := by simpa using World.var?_cell g0 hv0 0
  have hlt0 : 1 < W.heap.size := by
    rcases Nat.lt_or_ge 1 W.heap.size with h | h
    · exact h
    · simp [World.cell?, Array.getElem?_eq_none h] at hc0
  have hT : laidMet Tryz.prog (("internal/strconv.uint64pow10", Lib.tabData .u64 Lib.pow10Tab) :: [("loop.example/g00735/impl.errNotDigits", Rows.laid_loop_example_g00735_impl_errNotDigits)]) W := by rw [← datP]; exact hL.tail.tail
  have htab : Lib.TabIs Tryz.prog W "internal/strconv.uint64pow10" .u64 Lib.pow10Tab := Lib.tabIs_of_head (rest := _) gP tP Tryz.underlying179 Tryz.underlying136 cellsU cellsA hT
  obtain ⟨v0, vs0, d0, ds0, p0, q0, hargs, rfl, rfl, h0, r0⟩ := trodAll_cons hA
  obtain ⟨rfl, rfl, rfl⟩ := trodAll_nil r0
  obtain rfl : args = #[v0] := by cases args; simp_all
  obtain ⟨rfl, rfl⟩ := hV.unique (vars_read1 enc g0 t0 Tryz.underlying151 hv0 trivial _)
  obtain ⟨ao0, len0, cap0, rfl, w0⟩ := open_readable (hval 0 26 v0 rfl rfl) h0
  clear hA0 hval0
  refine (walk W _ hc0 htab _ ⟨_, _, _, rfl⟩ w0).mono fun e W' ⟨he, hg⟩ => ?_
  subst he
  exact ⟨_, rfl, post_true laidOut rowed hW' rfl resT Tryz.underlying4 hg (vars_read1 enc g0 t0 Tryz.underlying151 (var?_below hg g0 hlt0 hv0) trivial _)⟩

set_option maxRecDepth 100000 in
theorem over : Rows.fnWithRow.holds Tryz.pinned (OpenSpec.ofChange Rows.fnWithSpec) :=
  OpenClaim.holds_of_wide 8 Tryz.f8 rfl rfl rfl rfl rfl rfl rfl ⟨rfl, rfl, rfl, rfl, rfl⟩ rfl rfl rfl rfl rfl (by kernel_rfl) Tryz.func8 (by kernel_rfl)
    (of_decide_eq_true (by kernel_rfl)) (by unfold Func.isWrapper; first | (rw [if_pos (by decide +kernel)]; kernel_rfl) | (rw [if_neg (by decide +kernel)]; exact ⟨rfl, rfl⟩))
    (fun os started H enc _ => lifted os started H enc)

set_option maxRecDepth 100000 in
theorem said : Rows.FnWithSaid :=
  over

set_option maxRecDepth 100000 in
theorem plain (f : FuncId) (fn : Func) (hf : Tryz.pinned.checked.prog.funcNamed "loop.example/g00735/laws.FnWith" = some f) (hfn : Tryz.pinned.checked.prog.funcs[f]? = some fn) :
    Rows.fnWithCard.stood.looks = Tryz.pinned.checked.prog.looks [] ∧ ∀ (j : Nat) t, fn.params[j]? = some t → Tryz.pinned.checked.prog.wantsStandIn t = false := by
  obtain rfl : f = 8 := Option.some.inj ((show Tryz.prog.funcNamed "loop.example/g00735/laws.FnWith" = some 8 by kernel_rfl).symm.trans hf) |>.symm
  obtain rfl : fn = Tryz.f8 := (Option.some.inj (Tryz.func8.symm.trans hfn)).symm
  refine ⟨looks, fun j t ht => ?_⟩
  rw [Tryz.params8] at ht
  have hm : t ∈ [26] := by simpa using Array.mem_of_getElem? ht
  have hall : ([26].all fun u => !Tryz.prog.wantsStandIn u) = true := by kernel_rfl
  exact (show Tryz.prog.wantsStandIn t = false by simpa using List.all_eq_true.1 hall t hm)

set_option maxRecDepth 100000 in
theorem proved : Rows.FnWithCardSaid :=
  Claim7.holds_tied_plain_at .later [] _ _ _ _ said (fun _ h => by cases h) (by kernel_rfl) (fun _ h => by cases h) fnWith_row_tie rfl ⟨rfl, rfl⟩ mainIs rfl plain (by kernel_rfl)
#print axioms proved
end Go.Proofs.YtkkbhlaakhkjnaaGreatDoor.fnWith
