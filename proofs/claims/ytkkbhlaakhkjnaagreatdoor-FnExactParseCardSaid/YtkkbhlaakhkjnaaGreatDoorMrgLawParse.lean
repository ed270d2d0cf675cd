/- FnExactParse: for every argument the law answers true: the program's function returns what the reference returns; the listed package variables hold what the program's text lays (tied). -/
import Derived.Test.YtkkbhlaakhkjnaaGreatDoorPost
import Derived.Test.YtkkbhlaakhkjnaaGreatDoorOpenNB
import Derived.Test.YtkkbhlaakhkjnaaGreatDoorCards
import Derived.Test.YtkkbhlaakhkjnaaGreatDoorTie
import Derived.Stop.LaidErr
import Derived.LaidMore
import Derived.Stop.Joined
import Derived.SevenTiedAt
import Derived.WalkSmall
import Derived.Lib.LaidTab
import Derived.Lib.ItoaNum
import Derived.Test.YtkkbhlaakhkjnaaGreatDoorMrg4
import Derived.Test.YtkkbhlaakhkjnaaGreatDoorMrg3
import Derived.Test.YtkkbhlaakhkjnaaGreatDoorNumsB
import Derived.Test.YtkkbhlaakhkjnaaGreatDoorDoorZ
namespace Go.Proofs.YtkkbhlaakhkjnaaGreatDoor.fnExactParse
open Go.ChangeShapes Go.WideShapes Go.ChangeAt Go.RowKit
open Go.WideMaps Go.WideElems
open Go.ChangeMaps (open_string shut_string)
set_option linter.unusedVariables false

set_option maxRecDepth 100000 in
set_option maxHeartbeats 8000000 in
theorem walk (w : World) (p0 : Addr) (hc0 : w.cell? ⟨1, 0, none⟩ = some (.iface 183 (.pointer (some p0)))) (htab : Lib.TabIs Tryz.prog w "internal/strconv.uint64pow10" .u64 Lib.pow10Tab) (a0 : Value) (l0 : List Int) (w0 : rd .u8 w.heap.size w a0 l0) (y0 : isBytes l0) :
    Calls Tryz.prog 4 #[a0] w fun e w' => e = .returned (.bool true) ∧ Below w.heap.size w w' := by
  have HB0 : Hid (Below w.heap.size w w) := Lib.hid (Below.refl _ _)
  have hB0 : Below w.heap.size w w := Below.refl _ _
  obtain ⟨AA, cA, hform, -⟩ := w0.form
  subst hform
  by_cases hbig : (1048576 : Int) < (l0.length : Int)
  · clear w0
    go_enter Tryz.func4, Tryz.ntmps4
    go_wp2
    go_ret
    exact ⟨rfl, HB0.out⟩
  have hn : l0.length ≤ 1048576 := by omega
  have hL : l0.length ≤ 4611686018427387904 := by omega
  have hlt := cell_lt hc0
  have HCE : Hid (∀ w', Below w.heap.size w w' → w'.cell? ⟨1, 0, none⟩ = some (.iface 183 (.pointer (some p0)))) := Lib.hid fun w' h => (h.cell (p := ⟨_, 0, none⟩) hlt).trans hc0
  have HA := Lib.hid w0
  have HY := Lib.hid y0
  clear hc0 htab w0 y0
  go_enter Tryz.func4, Tryz.ntmps4
  go_wp2_with fail
  refine (toBytes_any _ _ l0 w hn HA.out (by omega)).mono ?_
  rintro e w1 ⟨u1, rfl, hu1, hb1⟩
  obtain ⟨A1, c1, rfl, -⟩ := hu1.form
  have z1 : w.heap.size ≤ w1.heap.size := hb1.size
  have hB1 := hB0.trans (hb1.mono (show w.heap.size ≤ _ by omega))
  replace HA := Lib.hid (HA.out.below hb1 (by omega))
  have B2 := Lib.hid hu1
  go_wp2_with fail
  refine (specParse_any _ _ l0 w1 hn HY.out B2.out.rd (by omega)).mono ?_
  rintro e w2 ⟨u2, rfl, hu2, hb2⟩
  obtain ⟨A2, c2, rfl, -⟩ := Rep.slice_form hu2.rd
  have z2 : w1.heap.size ≤ w2.heap.size := hb2.size
  have hB2 := hB1.trans (hb2.mono (show w.heap.size ≤ _ by omega))
  replace HA := Lib.hid (HA.out.below hb2 (by omega))
  replace B2 := Lib.hid (B2.out.below hb2 (by omega))
  have HW := Lib.hid hu2
  clear B2
  have hps := parse_size HY.out
  generalize hwo : parseRes l0 = pr at hps HW ⊢
  have HWO := Lib.hid hwo
  clear hwo
  obtain ⟨hp1, hp2⟩ := hps
  go_wp2_with fail
  have hb3 := (Below.refl w2.heap.size w2).alloc (Nat.le_refl _) (.cells #[.string pr.1.1, .slice A2 pr.1.2.length c2] 31)
  have hXW := heap_alloc_new w2 (.cells #[.string pr.1.1, .slice A2 pr.1.2.length c2] 31)
  generalize w2.alloc (.cells #[.string pr.1.1, .slice A2 pr.1.2.length c2] 31) = w3 at hb3 hXW ⊢
  have z3 : w2.heap.size ≤ w3.heap.size := hb3.size
  have zl3 : w2.heap.size < w3.heap.size := lt_of_block hXW
  have hB3 := hB2.trans (hb3.mono (show w.heap.size ≤ _ by omega))
  replace HA := Lib.hid (HA.out.below hb3 (by omega))
  replace HW := Lib.hid (HW.out.below hb3 (by omega))
  have XW := Lib.hid hXW
  clear hXW
  have XWc0 := cell_of_row _ _ 0 _ _ (0, 0) XW.out
  have XWc1 := cell_of_row _ _ 1 _ _ (0, 0) XW.out
  simp only [List.getElem?_toArray, List.getElem?_cons_zero, List.getElem?_cons_succ] at XWc0 XWc1
  go_wp2_with fail
  refine (toBytes_any _ _ l0 w3 hn HA.out (by omega)).mono ?_
  rintro e w4 ⟨u4, rfl, hu4, hb4⟩
  obtain ⟨A4, c4, rfl, -⟩ := hu4.form
  have z4 : w3.heap.size ≤ w4.heap.size := hb4.size
  have hB4 := hB3.trans (hb4.mono (show w.heap.size ≤ _ by omega))
  replace HA := Lib.hid (HA.out.below hb4 (by omega))
  replace HW := Lib.hid (HW.out.below hb4 (by omega))
  replace XW := Lib.hid ((hb4.block _ (by omega)).trans XW.out)
  have B4 := Lib.hid hu4
  clear XWc0 XWc1
  have XWc0 := cell_of_row _ _ 0 _ _ (0, 0) XW.out
  have XWc1 := cell_of_row _ _ 1 _ _ (0, 0) XW.out
  simp only [List.getElem?_toArray, List.getElem?_cons_zero, List.getElem?_cons_succ] at XWc0 XWc1
  go_wp2_with fail
  refine (implParse_any _ _ l0 w4 p0 (by omega) (HCE.out _ (HB0.out.trans (hB4.mono (by omega)))) (by omega) HY.out B4.out.rd (by omega)).mono ?_
  rintro e w5 ⟨u5, rfl, hu5, hb5⟩
  rw [HWO.out] at hu5 ⊢
  obtain ⟨A5, c5, rfl, -⟩ := Rep.slice_form hu5.rd
  have z5 : w4.heap.size ≤ w5.heap.size := hb5.size
  have hB5 := hB4.trans (hb5.mono (show w.heap.size ≤ _ by omega))
  replace HA := Lib.hid (HA.out.below hb5 (by omega))
  replace HW := Lib.hid (HW.out.below hb5 (by omega))
  replace XW := Lib.hid ((hb5.block _ (by omega)).trans XW.out)
  replace B4 := Lib.hid (B4.out.below hb5 (by omega))
  have HG := Lib.hid hu5
  clear XWc0 XWc1
  have XWc0 := cell_of_row _ _ 0 _ _ (0, 0) XW.out
  have XWc1 := cell_of_row _ _ 1 _ _ (0, 0) XW.out
  simp only [List.getElem?_toArray, List.getElem?_cons_zero, List.getElem?_cons_succ] at XWc0 XWc1
  have yy5XW : w2.heap.size < w5.heap.size := by omega
  go_wp2_with fail
  have hb6 := (Below.refl w5.heap.size w5).alloc (Nat.le_refl _) (.cells #[.string pr.1.1, .slice A5 pr.1.2.length c5] 31)
  have hXG := heap_alloc_new w5 (.cells #[.string pr.1.1, .slice A5 pr.1.2.length c5] 31)
  generalize w5.alloc (.cells #[.string pr.1.1, .slice A5 pr.1.2.length c5] 31) = w6 at hb6 hXG ⊢
  have z6 : w5.heap.size ≤ w6.heap.size := hb6.size
  have zl6 : w5.heap.size < w6.heap.size := lt_of_block hXG
  have hB6 := hB5.trans (hb6.mono (show w.heap.size ≤ _ by omega))
  replace HA := Lib.hid (HA.out.below hb6 (by omega))
  replace HW := Lib.hid (HW.out.below hb6 (by omega))
  replace XW := Lib.hid ((hb6.block _ (by omega)).trans XW.out)
  replace B4 := Lib.hid (B4.out.below hb6 (by omega))
  replace HG := Lib.hid (HG.out.below hb6 (by omega))
  have XG := Lib.hid hXG
  clear hXG
  have XGc0 := cell_of_row _ _ 0 _ _ (0, 0) XG.out
  have XGc1 := cell_of_row _ _ 1 _ _ (0, 0) XG.out
  simp only [List.getElem?_toArray, List.getElem?_cons_zero, List.getElem?_cons_succ] at XGc0 XGc1
  go_wp2_with fail
  refine (eqMsg_any _ _ _ _ pr.1 w6 (show pr.1.1.size ≤ 1048576 by omega) (by omega) HG.out.rd HW.out.rd (by omega) (by omega)).mono ?_
  rintro e w7 ⟨rfl, hb7⟩
  have z7 : w6.heap.size ≤ w7.heap.size := hb7.size
  have hB7 := hB6.trans (hb7.mono (show w.heap.size ≤ _ by omega))
  replace HA := Lib.hid (HA.out.below hb7 (by omega))
  replace HW := Lib.hid (HW.out.below hb7 (by omega))
  replace XW := Lib.hid ((hb7.block _ (by omega)).trans XW.out)
  replace B4 := Lib.hid (B4.out.below hb7 (by omega))
  replace HG := Lib.hid (HG.out.below hb7 (by omega))
  replace XG := Lib.hid ((hb7.block _ (by omega)).trans XG.out)
  clear XWc0 XWc1
  clear XGc0 XGc1
  have XWc0 := cell_of_row _ _ 0 _ _ (0, 0) XW.out
  have XWc1 := cell_of_row _ _ 1 _ _ (0, 0) XW.out
  simp only [List.getElem?_toArray, List.getElem?_cons_zero, List.getElem?_cons_succ] at XWc0 XWc1
  have XGc0 := cell_of_row _ _ 0 _ _ (0, 0) XG.out
  have XGc1 := cell_of_row _ _ 1 _ _ (0, 0) XG.out
  simp only [List.getElem?_toArray, List.getElem?_cons_zero, List.getElem?_cons_succ] at XGc0 XGc1
  go_wp2_with fail
  refine (toBytes_any _ _ l0 w7 hn HA.out (by omega)).mono ?_
  rintro e w8 ⟨u8, rfl, hu8, hb8⟩
  obtain ⟨A8, c8, rfl, -⟩ := hu8.form
  have z8 : w7.heap.size ≤ w8.heap.size := hb8.size
  have hB8 := hB7.trans (hb8.mono (show w.heap.size ≤ _ by omega))
  replace HA := Lib.hid (HA.out.below hb8 (by omega))
  replace HW := Lib.hid (HW.out.below hb8 (by omega))
  replace XW := Lib.hid ((hb8.block _ (by omega)).trans XW.out)
  replace B4 := Lib.hid (B4.out.below hb8 (by omega))
  replace HG := Lib.hid (HG.out.below hb8 (by omega))
  replace XG := Lib.hid ((hb8.block _ (by omega)).trans XG.out)
  have B5 := Lib.hid hu8
  clear XWc0 XWc1
  clear XGc0 XGc1
  have XWc0 := cell_of_row _ _ 0 _ _ (0, 0) XW.out
  have XWc1 := cell_of_row _ _ 1 _ _ (0, 0) XW.out
  simp only [List.getElem?_toArray, List.getElem?_cons_zero, List.getElem?_cons_succ] at XWc0 XWc1
  have XGc0 := cell_of_row _ _ 0 _ _ (0, 0) XG.out
  have XGc1 := cell_of_row _ _ 1 _ _ (0, 0) XG.out
  simp only [List.getElem?_toArray, List.getElem?_cons_zero, List.getElem?_cons_succ] at XGc0 XGc1
  go_wp2_with fail
  refine (eqBytes_any _ _ _ _ l0 w8 hL B4.out.rd B5.out.rd).mono ?_
  rintro e w9 ⟨rfl, hb9⟩
  have z9 : w8.heap.size ≤ w9.heap.size := hb9.size
  have hB9 := hB8.trans (hb9.mono (show w.heap.size ≤ _ by omega))
  replace HA := Lib.hid (HA.out.below hb9 (by omega))
  replace HW := Lib.hid (HW.out.below hb9 (by omega))
  replace XW := Lib.hid ((hb9.block _ (by omega)).trans XW.out)
  replace B4 := Lib.hid (B4.out.below hb9 (by omega))
  replace HG := Lib.hid (HG.out.below hb9 (by omega))
  replace XG := Lib.hid ((hb9.block _ (by omega)).trans XG.out)
  replace B5 := Lib.hid (B5.out.below hb9 (by omega))
  clear XWc0 XWc1
  clear XGc0 XGc1
  have XWc0 := cell_of_row _ _ 0 _ _ (0, 0) XW.out
  have XWc1 := cell_of_row _ _ 1 _ _ (0, 0) XW.out
  simp only [List.getElem?_toArray, List.getElem?_cons_zero, List.getElem?_cons_succ] at XWc0 XWc1
  have XGc0 := cell_of_row _ _ 0 _ _ (0, 0) XG.out
  have XGc1 := cell_of_row _ _ 1 _ _ (0, 0) XG.out
  simp only [List.getElem?_toArray, List.getElem?_cons_zero, List.getElem?_cons_succ] at XGc0 XGc1
  clear B5
  go_wp2_with fail
  refine (markBytes_any _ _ _ l0 1 w9 hL (by decide) (by decide) B4.out).mono ?_
  rintro e w10 ⟨rfl, hmk10, hg10⟩
  have ht10 := Turned.of_grown hg10 B4.out.blk
  clear hg10
  have z10 : w9.heap.size ≤ w10.heap.size := ht10.size
  have hB10 := hB9.trans (ht10.below (show w.heap.size ≤ _ by omega) (by omega))
  replace HA := Lib.hid (HA.out.turned ht10 (by omega) (by omega))
  replace HW := Lib.hid (HW.out.turned ht10 (by omega) (by omega))
  replace XW := Lib.hid ((ht10.block _ (by omega) (by omega)).trans XW.out)
  replace HG := Lib.hid (HG.out.turned ht10 (by omega) (by omega))
  replace XG := Lib.hid ((ht10.block _ (by omega) (by omega)).trans XG.out)
  clear B4
  clear XWc0 XWc1
  clear XGc0 XGc1
  have XWc0 := cell_of_row _ _ 0 _ _ (0, 0) XW.out
  have XWc1 := cell_of_row _ _ 1 _ _ (0, 0) XW.out
  simp only [List.getElem?_toArray, List.getElem?_cons_zero, List.getElem?_cons_succ] at XWc0 XWc1
  have XGc0 := cell_of_row _ _ 0 _ _ (0, 0) XG.out
  have XGc1 := cell_of_row _ _ 1 _ _ (0, 0) XG.out
  simp only [List.getElem?_toArray, List.getElem?_cons_zero, List.getElem?_cons_succ] at XGc0 XGc1
  have kk : ¬ ((1 : Int) + (l0.length : Int) < 0) := by omega
  go_wp2_with fail
  refine (eqMsg_any _ _ _ _ pr.1 w10 (show pr.1.1.size ≤ 1048576 by omega) (by omega) HG.out.rd HW.out.rd (by omega) (by omega)).mono ?_
  rintro e w11 ⟨rfl, hb11⟩
  have z11 : w10.heap.size ≤ w11.heap.size := hb11.size
  have hB11 := hB10.trans (hb11.mono (show w.heap.size ≤ _ by omega))
  replace HA := Lib.hid (HA.out.below hb11 (by omega))
  replace HW := Lib.hid (HW.out.below hb11 (by omega))
  replace XW := Lib.hid ((hb11.block _ (by omega)).trans XW.out)
  replace HG := Lib.hid (HG.out.below hb11 (by omega))
  replace XG := Lib.hid ((hb11.block _ (by omega)).trans XG.out)
  clear XWc0 XWc1
  clear XGc0 XGc1
  have XWc0 := cell_of_row _ _ 0 _ _ (0, 0) XW.out
  have XWc1 := cell_of_row _ _ 1 _ _ (0, 0) XW.out
  simp only [List.getElem?_toArray, List.getElem?_cons_zero, List.getElem?_cons_succ] at XWc0 XWc1
  have XGc0 := cell_of_row _ _ 0 _ _ (0, 0) XG.out
  have XGc1 := cell_of_row _ _ 1 _ _ (0, 0) XG.out
  simp only [List.getElem?_toArray, List.getElem?_cons_zero, List.getElem?_cons_succ] at XGc0 XGc1
  clear kk
  go_wp2_with fail
  refine (markMsg_any _ _ _ pr.1 1 w11 (by omega) (by decide) (by decide) HG.out (by omega)).mono ?_
  rintro e w12 ⟨rfl, hmk12, ht12⟩
  have z12 : w11.heap.size ≤ w12.heap.size := ht12.size
  have hB12 := hB11.trans (ht12.below (show w.heap.size ≤ _ by omega) (by omega))
  replace HA := Lib.hid (HA.out.turned ht12 (by omega) (by omega))
  replace HW := Lib.hid (HW.out.turned ht12 (by omega) (by omega))
  replace XW := Lib.hid ((ht12.block _ (by omega) (by omega)).trans XW.out)
  replace XG := Lib.hid ((ht12.block _ (by omega) (by omega)).trans XG.out)
  clear HG
  have HM := Lib.hid hmk12
  clear XWc0 XWc1
  clear XGc0 XGc1
  have XWc0 := cell_of_row _ _ 0 _ _ (0, 0) XW.out
  have XWc1 := cell_of_row _ _ 1 _ _ (0, 0) XW.out
  simp only [List.getElem?_toArray, List.getElem?_cons_zero, List.getElem?_cons_succ] at XWc0 XWc1
  have XGc0 := cell_of_row _ _ 0 _ _ (0, 0) XG.out
  have XGc1 := cell_of_row _ _ 1 _ _ (0, 0) XG.out
  simp only [List.getElem?_toArray, List.getElem?_cons_zero, List.getElem?_cons_succ] at XGc0 XGc1
  have kk : ¬ ((1 : Int) + 2 * (pr.1.2.length : Int) < 0) := by omega
  go_wp2_with fail
  refine (heldMsg_any _ _ pr.1.1 pr.1.2.length 1 w12 (by omega) (by decide) (by decide) HM.out.rd (by omega)).mono ?_
  rintro e w13 ⟨rfl, hb13⟩
  have z13 : w12.heap.size ≤ w13.heap.size := hb13.size
  have hB13 := hB12.trans (hb13.mono (show w.heap.size ≤ _ by omega))
  replace HA := Lib.hid (HA.out.below hb13 (by omega))
  replace HW := Lib.hid (HW.out.below hb13 (by omega))
  replace XW := Lib.hid ((hb13.block _ (by omega)).trans XW.out)
  replace XG := Lib.hid ((hb13.block _ (by omega)).trans XG.out)
  replace HM := Lib.hid (HM.out.below hb13 (by omega))
  clear XWc0 XWc1
  clear XGc0 XGc1
  have XWc0 := cell_of_row _ _ 0 _ _ (0, 0) XW.out
  have XWc1 := cell_of_row _ _ 1 _ _ (0, 0) XW.out
  simp only [List.getElem?_toArray, List.getElem?_cons_zero, List.getElem?_cons_succ] at XWc0 XWc1
  have XGc0 := cell_of_row _ _ 0 _ _ (0, 0) XG.out
  have XGc1 := cell_of_row _ _ 1 _ _ (0, 0) XG.out
  simp only [List.getElem?_toArray, List.getElem?_cons_zero, List.getElem?_cons_succ] at XGc0 XGc1
  go_wp2_with fail
  refine (toBytes_any _ _ l0 w13 hn HA.out (by omega)).mono ?_
  rintro e w14 ⟨u14, rfl, hu14, hb14⟩
  obtain ⟨A14, c14, rfl, -⟩ := hu14.form
  have z14 : w13.heap.size ≤ w14.heap.size := hb14.size
  have hB14 := hB13.trans (hb14.mono (show w.heap.size ≤ _ by omega))
  replace HA := Lib.hid (HA.out.below hb14 (by omega))
  replace HW := Lib.hid (HW.out.below hb14 (by omega))
  replace XW := Lib.hid ((hb14.block _ (by omega)).trans XW.out)
  replace XG := Lib.hid ((hb14.block _ (by omega)).trans XG.out)
  replace HM := Lib.hid (HM.out.below hb14 (by omega))
  have B6 := Lib.hid hu14
  clear XWc0 XWc1
  clear XGc0 XGc1
  have XWc0 := cell_of_row _ _ 0 _ _ (0, 0) XW.out
  have XWc1 := cell_of_row _ _ 1 _ _ (0, 0) XW.out
  simp only [List.getElem?_toArray, List.getElem?_cons_zero, List.getElem?_cons_succ] at XWc0 XWc1
  have XGc0 := cell_of_row _ _ 0 _ _ (0, 0) XG.out
  have XGc1 := cell_of_row _ _ 1 _ _ (0, 0) XG.out
  simp only [List.getElem?_toArray, List.getElem?_cons_zero, List.getElem?_cons_succ] at XGc0 XGc1
  go_wp2_with fail
  refine (implParse_any _ _ l0 w14 p0 (by omega) (HCE.out _ (HB0.out.trans (hB14.mono (by omega)))) (by omega) HY.out B6.out.rd (by omega)).mono ?_
  rintro e w15 ⟨u15, rfl, hu15, hb15⟩
  rw [HWO.out] at hu15 ⊢
  obtain ⟨A15, c15, rfl, -⟩ := Rep.slice_form hu15.rd
  have z15 : w14.heap.size ≤ w15.heap.size := hb15.size
  have hB15 := hB14.trans (hb15.mono (show w.heap.size ≤ _ by omega))
  replace HA := Lib.hid (HA.out.below hb15 (by omega))
  replace HW := Lib.hid (HW.out.below hb15 (by omega))
  replace XW := Lib.hid ((hb15.block _ (by omega)).trans XW.out)
  replace XG := Lib.hid ((hb15.block _ (by omega)).trans XG.out)
  replace HM := Lib.hid (HM.out.below hb15 (by omega))
  replace B6 := Lib.hid (B6.out.below hb15 (by omega))
  have HH := Lib.hid hu15
  clear XWc0 XWc1
  clear XGc0 XGc1
  have XWc0 := cell_of_row _ _ 0 _ _ (0, 0) XW.out
  have XWc1 := cell_of_row _ _ 1 _ _ (0, 0) XW.out
  simp only [List.getElem?_toArray, List.getElem?_cons_zero, List.getElem?_cons_succ] at XWc0 XWc1
  have XGc0 := cell_of_row _ _ 0 _ _ (0, 0) XG.out
  have XGc1 := cell_of_row _ _ 1 _ _ (0, 0) XG.out
  simp only [List.getElem?_toArray, List.getElem?_cons_zero, List.getElem?_cons_succ] at XGc0 XGc1
  have yy15XW : w2.heap.size < w15.heap.size := by omega
  have yy15XG : w5.heap.size < w15.heap.size := by omega
  go_wp2_with fail
  have hb16 := (Below.refl w15.heap.size w15).alloc (Nat.le_refl _) (.cells #[.string pr.1.1, .slice A15 pr.1.2.length c15] 31)
  have hXH := heap_alloc_new w15 (.cells #[.string pr.1.1, .slice A15 pr.1.2.length c15] 31)
  generalize w15.alloc (.cells #[.string pr.1.1, .slice A15 pr.1.2.length c15] 31) = w16 at hb16 hXH ⊢
  have z16 : w15.heap.size ≤ w16.heap.size := hb16.size
  have zl16 : w15.heap.size < w16.heap.size := lt_of_block hXH
  have hB16 := hB15.trans (hb16.mono (show w.heap.size ≤ _ by omega))
  replace HA := Lib.hid (HA.out.below hb16 (by omega))
  replace HW := Lib.hid (HW.out.below hb16 (by omega))
  replace XW := Lib.hid ((hb16.block _ (by omega)).trans XW.out)
  replace XG := Lib.hid ((hb16.block _ (by omega)).trans XG.out)
  replace HM := Lib.hid (HM.out.below hb16 (by omega))
  replace B6 := Lib.hid (B6.out.below hb16 (by omega))
  replace HH := Lib.hid (HH.out.below hb16 (by omega))
  have XH := Lib.hid hXH
  clear hXH
  have XHc0 := cell_of_row _ _ 0 _ _ (0, 0) XH.out
  have XHc1 := cell_of_row _ _ 1 _ _ (0, 0) XH.out
  simp only [List.getElem?_toArray, List.getElem?_cons_zero, List.getElem?_cons_succ] at XHc0 XHc1
  go_wp2_with fail
  refine (eqMsg_any _ _ _ _ pr.1 w16 (show pr.1.1.size ≤ 1048576 by omega) (by omega) HH.out.rd HW.out.rd (by omega) (by omega)).mono ?_
  rintro e w17 ⟨rfl, hb17⟩
  have z17 : w16.heap.size ≤ w17.heap.size := hb17.size
  have hB17 := hB16.trans (hb17.mono (show w.heap.size ≤ _ by omega))
  replace HA := Lib.hid (HA.out.below hb17 (by omega))
  replace HW := Lib.hid (HW.out.below hb17 (by omega))
  replace XW := Lib.hid ((hb17.block _ (by omega)).trans XW.out)
  replace XG := Lib.hid ((hb17.block _ (by omega)).trans XG.out)
  replace HM := Lib.hid (HM.out.below hb17 (by omega))
  replace B6 := Lib.hid (B6.out.below hb17 (by omega))
  replace HH := Lib.hid (HH.out.below hb17 (by omega))
  replace XH := Lib.hid ((hb17.block _ (by omega)).trans XH.out)
  clear XWc0 XWc1
  clear XGc0 XGc1
  clear XHc0 XHc1
  have XWc0 := cell_of_row _ _ 0 _ _ (0, 0) XW.out
  have XWc1 := cell_of_row _ _ 1 _ _ (0, 0) XW.out
  simp only [List.getElem?_toArray, List.getElem?_cons_zero, List.getElem?_cons_succ] at XWc0 XWc1
  have XGc0 := cell_of_row _ _ 0 _ _ (0, 0) XG.out
  have XGc1 := cell_of_row _ _ 1 _ _ (0, 0) XG.out
  simp only [List.getElem?_toArray, List.getElem?_cons_zero, List.getElem?_cons_succ] at XGc0 XGc1
  have XHc0 := cell_of_row _ _ 0 _ _ (0, 0) XH.out
  have XHc1 := cell_of_row _ _ 1 _ _ (0, 0) XH.out
  simp only [List.getElem?_toArray, List.getElem?_cons_zero, List.getElem?_cons_succ] at XHc0 XHc1
  go_wp2_with fail
  refine (heldMsg_any _ _ pr.1.1 pr.1.2.length 1 w17 (by omega) (by decide) (by decide) HM.out.rd (by omega)).mono ?_
  rintro e w18 ⟨rfl, hb18⟩
  have z18 : w17.heap.size ≤ w18.heap.size := hb18.size
  have hB18 := hB17.trans (hb18.mono (show w.heap.size ≤ _ by omega))
  replace HA := Lib.hid (HA.out.below hb18 (by omega))
  replace HW := Lib.hid (HW.out.below hb18 (by omega))
  replace XW := Lib.hid ((hb18.block _ (by omega)).trans XW.out)
  replace XG := Lib.hid ((hb18.block _ (by omega)).trans XG.out)
  replace HM := Lib.hid (HM.out.below hb18 (by omega))
  replace B6 := Lib.hid (B6.out.below hb18 (by omega))
  replace HH := Lib.hid (HH.out.below hb18 (by omega))
  replace XH := Lib.hid ((hb18.block _ (by omega)).trans XH.out)
  clear XWc0 XWc1
  clear XGc0 XGc1
  clear XHc0 XHc1
  have XWc0 := cell_of_row _ _ 0 _ _ (0, 0) XW.out
  have XWc1 := cell_of_row _ _ 1 _ _ (0, 0) XW.out
  simp only [List.getElem?_toArray, List.getElem?_cons_zero, List.getElem?_cons_succ] at XWc0 XWc1
  have XGc0 := cell_of_row _ _ 0 _ _ (0, 0) XG.out
  have XGc1 := cell_of_row _ _ 1 _ _ (0, 0) XG.out
  simp only [List.getElem?_toArray, List.getElem?_cons_zero, List.getElem?_cons_succ] at XGc0 XGc1
  have XHc0 := cell_of_row _ _ 0 _ _ (0, 0) XH.out
  have XHc1 := cell_of_row _ _ 1 _ _ (0, 0) XH.out
  simp only [List.getElem?_toArray, List.getElem?_cons_zero, List.getElem?_cons_succ] at XHc0 XHc1
  go_wp2
  go_ret
  exact ⟨rfl, (HB0.out.trans (hB18.mono (by omega)))⟩

open Go.Proofs.YtkkbhlaakhkjnaaGreatDoor.doorz
set_option maxRecDepth 100000 in
theorem rowed : allRowed Tryz.prog Tryz.f4.params.toList = true := by kernel_rfl
set_option maxRecDepth 100000 in
theorem resT : Tryz.f4.resultTypes = #[4] := by kernel_rfl
set_option maxRecDepth 100000 in
theorem door_met (os : Os) (args : Array Value) : laidMetH Tryz.prog Rows.fnExactParseRow.laid ((World.doorLaid Tryz.prog 400 os).forCall (fun _ _ => 0) ⟨#[], args, []⟩).memory := met os args

set_option maxRecDepth 100000 in
theorem lifted (os : Os) (started : os.Started) (H : Type) (enc : TypeId × Value → H) :
    ReturnsInHanded {} Tryz.checked os 4 .any (fun w args => (Rows.fnExactParseSpec.pre enc Tryz.prog Tryz.f4 [] false w args ∧ laidMetH Tryz.prog Rows.fnExactParseRow.laid w) ∧ sizedMet enc Tryz.prog Tryz.f4 (OpenSpec.ofChange Rows.fnExactParseSpec) false w args)
      (Rows.fnExactParseSpec.post enc Tryz.prog Tryz.f4 false true false false) := by
  refine returnsInHanded_of_change_and (C := Tryz.checked) (X := fun w _ => laidMetH Tryz.prog Rows.fnExactParseRow.laid w) (fun _ _ _ hh h => h.of_heap hh) own started (by kernel_rfl) Tryz.func4
    (ChangeSpec.witness_shaped (enc := enc) (C := Tryz.checked) (os := os) (X := fun w _ => laidMetH Tryz.prog Rows.fnExactParseRow.laid w) false (World.doorLaid Tryz.prog 400 os) #[.slice none 0 0] 8 rfl (shaped os _) (by kernel_rfl) (by kernel_rfl) (by kernel_rfl) (door_met os _)) ?_
  intro W base args ds gs before hval0 hW _ _ hL0 _
  have hval : ∀ (j : Nat) t v, Tryz.f4.params[j]? = some t → args[j]? = some v → Value.okWide Tryz.prog W .any base t v := hval0
  have hW' := hW
  obtain ⟨p, q, hA0, hV, rfl, hfz, hnd⟩ := hW
  have hA : DataW.TrodAll enc Tryz.prog W 0 (fun _ => true) true Tryz.f4.params.toList args.toList ds p := hA0
  rw [Tryz.params4] at hA hval
  have hL := hL0
  rw [MakeChecks.laidMetH_plain _ _ _ (by kernel_rfl)] at hL
  obtain ⟨b0, s0, hv0, _, _, _⟩ := laid_sentinel hL.tail.tail.tail g0 t0 Tryz.underlying151 rowE Tryz.underlying183 Tryz.underlying197 rfl rfl Tryz.underlying9 cellsE cellsS
  have hc0 : W.cell? ⟨1, 0, none⟩ = some (.iface 183 (.pointer (some b0))) := by simpa using World.var?_cell g0 hv0 0
  have hlt0 : 1 < W.heap.size := by
    rcases Nat.lt_or_ge 1 W.heap.size with h | h
    · exact h
    · simp [World.cell?, Array.getElem?_eq_none h] at hc0
  have hT : laidMet Tryz.prog (("internal/strconv.uint64pow10", Lib.tabData .u64 Lib.pow10Tab) :: [("loop.example/g00735/impl.errNotDigits", Rows.laid_loop_example_g00735_impl_errNotDigits)]) W := by rw [← datP]; exact hL.tail.tail
  have htab : Lib.TabIs Tryz.prog W "internal/strconv.uint64pow10" .u64 Lib.pow10Tab := Lib.tabIs_of_head (rest := _) gP tP Tryz.underlying179 Tryz.underlying136 cellsU cellsA hT
  obtain ⟨v0, vs0, d0, ds0, p0, q0, hargs, rfl, rfl, h0, r0⟩ := trodAll_cons hA
  obtain ⟨rfl, rfl, rfl⟩ := trodAll_nil r0
  obtain rfl : args = #[v0] := by cases args; simp_all
  obtain ⟨rfl, rfl⟩ := hV.unique (vars_read1 enc g0 t0 Tryz.underlying151 hv0 trivial _)
  obtain ⟨l0, w0, y0⟩ := open_rdBytes (hval 0 26 v0 rfl rfl) h0
  clear hA0 hval0
  refine (walk W _ hc0 htab _ _ w0 y0).mono fun e W' ⟨he, hg⟩ => ?_
  subst he
  exact ⟨_, rfl, post_true laidOut rowed hW' rfl resT Tryz.underlying4 hg (vars_read1 enc g0 t0 Tryz.underlying151 (var?_below hg g0 hlt0 hv0) trivial _)⟩

set_option maxRecDepth 100000 in
theorem over : Rows.fnExactParseRow.holds Tryz.pinned (OpenSpec.ofChange Rows.fnExactParseSpec) :=
  OpenClaim.holds_of_wide 4 Tryz.f4 rfl rfl rfl rfl rfl rfl rfl ⟨rfl, rfl, rfl, rfl, rfl⟩ rfl rfl rfl rfl rfl (by kernel_rfl) Tryz.func4 (by kernel_rfl)
    (of_decide_eq_true (by kernel_rfl)) (by unfold Func.isWrapper; first | (rw [if_pos (by decide +kernel)]; kernel_rfl) | (rw [if_neg (by decide +kernel)]; exact ⟨rfl, rfl⟩))
    (fun os started H enc _ => lifted os started H enc)

set_option maxRecDepth 100000 in
theorem said : Rows.FnExactParseSaid :=
  over

set_option maxRecDepth 100000 in
theorem plain (f : FuncId) (fn : Func) (hf : Tryz.pinned.checked.prog.funcNamed "loop.example/g00735/laws.FnExactParse" = some f) (hfn : Tryz.pinned.checked.prog.funcs[f]? = some fn) :
    Rows.fnExactParseCard.stood.looks = Tryz.pinned.checked.prog.looks [] ∧ ∀ (j : Nat) t, fn.params[j]? = some t → Tryz.pinned.checked.prog.wantsStandIn t = false := by
  obtain rfl : f = 4 := Option.some.inj ((show Tryz.prog.funcNamed "loop.example/g00735/laws.FnExactParse" = some 4 by kernel_rfl).symm.trans hf) |>.symm
  obtain rfl : fn = Tryz.f4 := (Option.some.inj (Tryz.func4.symm.trans hfn)).symm
  refine ⟨looks, fun j t ht => ?_⟩
  rw [Tryz.params4] at ht
  have hm : t ∈ [26] := by simpa using Array.mem_of_getElem? ht
  have hall : ([26].all fun u => !Tryz.prog.wantsStandIn u) = true := by kernel_rfl
  exact (show Tryz.prog.wantsStandIn t = false by simpa using List.all_eq_true.1 hall t hm)

set_option maxRecDepth 100000 in
theorem proved : Rows.FnExactParseCardSaid :=
  Claim7.holds_tied_plain_at .later [] _ _ _ _ said (fun _ h => by cases h) (by kernel_rfl) (fun _ h => by cases h) fnExactParse_row_tie rfl ⟨rfl, rfl⟩ mainIs rfl plain (by kernel_rfl)
#print axioms proved
end Go.Proofs.YtkkbhlaakhkjnaaGreatDoor.fnExactParse
