/- FnExactReply: for every argument the law answers true: the program's function returns what the reference returns; the listed package variables hold what the program's text lays (tied). -/
import Derived.Test.YtdjlhijaadombaaGreatDoorPost
import Derived.Test.YtdjlhijaadombaaGreatDoorOpenMsg
import Derived.Test.YtdjlhijaadombaaGreatDoorCards
import Derived.Test.YtdjlhijaadombaaGreatDoorTie
import Derived.Stop.LaidErr
import Derived.LaidMore
import Derived.Stop.Joined
import Derived.SevenTiedAt
import Derived.WalkSmall
import Derived.Test.YtdjlhijaadombaaGreatDoorCodes
import Derived.Test.YtdjlhijaadombaaGreatDoorMrg1
import Derived.Test.YtdjlhijaadombaaGreatDoorMrg2
namespace Go.Proofs.YtdjlhijaadombaaGreatDoor.fnExactReply
open Go.ChangeShapes Go.WideShapes Go.ChangeAt Go.RowKit
open Go.WideMaps Go.WideElems
open Go.ChangeMaps (open_string shut_string)
set_option linter.unusedVariables false

set_option maxRecDepth 100000 in
theorem own : ownKnob Tryz.prog.godebug = none := by kernel_rfl

set_option maxRecDepth 100000 in
set_option maxHeartbeats 8000000 in
theorem walk (w : World) (p0 : Addr) (hc0 : w.cell? ⟨2, 0, none⟩ = some (.iface 149 (.pointer (some p0)))) (hct : codesIn w) (m0 : MsgD) (u0 : Value) (a1 : Int) (a2 : ByteArray) (a3 : ByteArray) (w0 : FieldsR.rd w.heap.size w [u0] m0.2) (z0 : m0.1.size ≤ maxLen) (n0 : m0.2.length ≤ maxLen) (y0 : ∀ x ∈ m0.2, (Lit.int .i64 x.1).wf = true ∧ x.2.size ≤ maxLen) (w1 : (Lit.int .i64 a1).wf = true) (w2 : a2.size ≤ maxLen) (w3 : a3.size ≤ maxLen) :
    Calls Tryz.prog 3 #[.agg #[.string m0.1, u0], .int .i64 a1, .string a2, .string a3] w fun e w' => e = .returned (.bool true) ∧ Below w.heap.size w w' := by
  obtain ⟨AM0, cM0, rfl, -⟩ := Rep.slice_form w0
  have HM0 := Lib.hid w0
  have HN0 := Lib.hid n0
  have HZ0 := Lib.hid z0
  have HY0 : Hid (∀ x ∈ m0.2, x.2.size ≤ maxLen) := Lib.hid (fun x hx => (y0 x hx).2)
  have HI0 : Hid (∀ x ∈ m0.2, (Lit.int .i64 x.1).wf = true) := Lib.hid (fun x hx => (y0 x hx).1)
  have HB0 : Hid (Below w.heap.size w (w.alloc (.cells #[.string m0.1, .slice AM0 m0.2.length cM0] 24))) := Lib.hid ((Below.refl w.heap.size w).alloc (Nat.le_refl _) (.cells #[.string m0.1, .slice AM0 m0.2.length cM0] 24))
  have HX : Hid (∀ wr, Below (w.heap.size + 1) (w.alloc (.cells #[.string m0.1, .slice AM0 m0.2.length cM0] 24)) wr → wr.cell? ⟨w.heap.size, 0, none⟩ = some (.string m0.1) ∧ wr.cell? ⟨w.heap.size, 1, none⟩ = some (.slice AM0 m0.2.length cM0)) := Lib.hid fun wr hw => ⟨(hw.cell (p := ⟨w.heap.size, 0, none⟩) (show w.heap.size < _ by omega)).trans (by simp), (hw.cell (p := ⟨w.heap.size, 1, none⟩) (show w.heap.size < _ by omega)).trans (by simp)⟩
  clear w0 z0 n0 y0
  have HCT : Hid (∀ w', Below w.heap.size w w' → codesIn w') := Lib.hid fun w' h => hct.below h
  clear hc0 hct
  by_cases hbig : (1048576 : Int) < (a2.size : Int)
  · go_enter Tryz.func3, Tryz.ntmps3
    go_wp2
    go_ret
    exact ⟨rfl, HB0.out⟩
  by_cases hbig2 : (1048576 : Int) < (a3.size : Int)
  · go_enter Tryz.func3, Tryz.ntmps3
    go_wp2
    go_ret
    exact ⟨rfl, HB0.out⟩
  have hh : a2.size ≤ 1048576 := by omega
  have ht3 : a3.size ≤ maxLen := by unfold maxLen; omega
  clear w1 w2 w3
  go_enter Tryz.func3, Tryz.ntmps3
  go_wp2_with fail
  replace HM0 := Lib.hid (Rep.below (R := FieldsR) HM0.out HB0.out (Nat.le_refl _))
  refine (szMsg_any w.heap.size _ m0 1048576 _ HN0.out HZ0.out HY0.out HM0.out (by first | omega | (simp <;> omega)) (by omega) (by omega)).mono ?_
  rintro e w1 ⟨r0, rfl, hr0, hb1⟩
  have z1 : w.heap.size + 1 ≤ w1.heap.size := by have := hb1.size; simp at this; omega
  have hB1 : Below (w.heap.size + 1) (w.alloc (.cells #[.string m0.1, .slice AM0 m0.2.length cM0] 24)) w1 := hb1.mono (by simp <;> omega)
  rcases hr0 with rfl | ⟨hr0, hp0⟩
  · go_wp2
    go_ret
    exact ⟨rfl, (HB0.out.trans (hB1.mono (by omega)))⟩
  have hsz0 : msgSz m0 ≤ 1048576 := by omega
  have hl0 : m0.2.length ≤ 1048576 := by unfold msgSz fieldsSz at hsz0; omega
  have ht0 : m0.1.size ≤ 1048576 := by unfold msgSz at hsz0; omega
  have HS0 : Hid (∀ x ∈ m0.2, x.2.size ≤ 1048576) := Lib.hid (fun x hx => by have := le_sum (fun y : FieldD => y.2.size) hx; unfold msgSz fieldsSz at hsz0; omega)
  have hq0 : r0 ≤ 1048576 := by omega
  replace HM0 := Lib.hid (Rep.below (R := FieldsR) HM0.out (hB1.mono (by omega)) (Nat.le_refl _))
  obtain ⟨x0, x1⟩ := HX.out w1 hB1
  have HR0 := Lib.hid hr0
  clear hr0 hsz0 hb1
  have hwl := reply_len m0 a1 a2 a3
  have hwt := reply_size m0 a1 a2 a3
  go_wp2_with fail
  refine (toMsg_any w.heap.size m0 _ w1 hl0 HM0.out (by omega)).mono ?_
  rintro e w2 ⟨u2, rfl, hu2, hb2⟩
  obtain ⟨A2, c2, rfl, -⟩ := Rep.slice_form hu2.rd
  have z2 : w1.heap.size ≤ w2.heap.size := hb2.size
  have hB2 := hB1.trans (hb2.mono (show w.heap.size + 1 ≤ _ by omega))
  replace HM0 := Lib.hid (Rep.below (R := FieldsR) HM0.out hb2 (by omega))
  have H2 := Lib.hid hu2
  clear x0 x1
  obtain ⟨x0, x1⟩ := HX.out w2 hB2
  go_wp2_with fail
  refine (specReply_any _ _ m0 a1 a2 a3 w2 HZ0.out hl0 HY0.out hh ht3 H2.out.rd (by omega)).mono ?_
  rintro e w3 ⟨u3, rfl, hu3, hb3⟩
  obtain ⟨A3, c3, rfl, -⟩ := Rep.slice_form hu3.rd
  have z3 : w2.heap.size ≤ w3.heap.size := hb3.size
  have hB3 := hB2.trans (hb3.mono (show w.heap.size + 1 ≤ _ by omega))
  replace HM0 := Lib.hid (Rep.below (R := FieldsR) HM0.out hb3 (by omega))
  replace H2 := Lib.hid (H2.out.below hb3 (by omega))
  have HW := Lib.hid hu3
  clear x0 x1
  obtain ⟨x0, x1⟩ := HX.out w3 hB3
  clear H2
  generalize hwo : replyRes m0 a1 a2 a3 = pr at hwl hwt HW ⊢
  have HWO := Lib.hid hwo
  clear hwo
  have yy3_0 : w.heap.size < w3.heap.size := by omega
  go_wp2_with fail
  have hb4 := (Below.refl w3.heap.size w3).alloc (Nat.le_refl _) (.cells #[.string pr.1.1, .slice A3 pr.1.2.length c3] 28)
  have hXW := heap_alloc_new w3 (.cells #[.string pr.1.1, .slice A3 pr.1.2.length c3] 28)
  generalize w3.alloc (.cells #[.string pr.1.1, .slice A3 pr.1.2.length c3] 28) = w4 at hb4 hXW ⊢
  have z4 : w3.heap.size ≤ w4.heap.size := hb4.size
  have zl4 : w3.heap.size < w4.heap.size := lt_of_block hXW
  have hB4 := hB3.trans (hb4.mono (show w.heap.size + 1 ≤ _ by omega))
  replace HM0 := Lib.hid (Rep.below (R := FieldsR) HM0.out hb4 (by omega))
  replace HW := Lib.hid (HW.out.below hb4 (by omega))
  have XW := Lib.hid hXW
  clear hXW
  clear x0 x1
  obtain ⟨x0, x1⟩ := HX.out w4 hB4
  have XWc0 := cell_of_row _ _ 0 _ _ (0, 0) XW.out
  have XWc1 := cell_of_row _ _ 1 _ _ (0, 0) XW.out
  simp only [List.getElem?_toArray, List.getElem?_cons_zero, List.getElem?_cons_succ] at XWc0 XWc1
  go_wp2_with fail
  refine (toMsg_any w.heap.size m0 _ w4 hl0 HM0.out (by omega)).mono ?_
  rintro e w5 ⟨u5, rfl, hu5, hb5⟩
  obtain ⟨A5, c5, rfl, -⟩ := Rep.slice_form hu5.rd
  have z5 : w4.heap.size ≤ w5.heap.size := hb5.size
  have hB5 := hB4.trans (hb5.mono (show w.heap.size + 1 ≤ _ by omega))
  replace HM0 := Lib.hid (Rep.below (R := FieldsR) HM0.out hb5 (by omega))
  replace HW := Lib.hid (HW.out.below hb5 (by omega))
  replace XW := Lib.hid ((hb5.block _ (by omega)).trans XW.out)
  have H4 := Lib.hid hu5
  clear x0 x1
  obtain ⟨x0, x1⟩ := HX.out w5 hB5
  clear XWc0 XWc1
  have XWc0 := cell_of_row _ _ 0 _ _ (0, 0) XW.out
  have XWc1 := cell_of_row _ _ 1 _ _ (0, 0) XW.out
  simp only [List.getElem?_toArray, List.getElem?_cons_zero, List.getElem?_cons_succ] at XWc0 XWc1
  have yy5_0 : w.heap.size < w5.heap.size := by omega
  have yy5XW : w3.heap.size < w5.heap.size := by omega
  go_wp2_with fail
  have hb6 := (Below.refl w5.heap.size w5).alloc (Nat.le_refl _) (.cells #[.string m0.1, .slice A5 m0.2.length c5] 28)
  have hX4 := heap_alloc_new w5 (.cells #[.string m0.1, .slice A5 m0.2.length c5] 28)
  generalize w5.alloc (.cells #[.string m0.1, .slice A5 m0.2.length c5] 28) = w6 at hb6 hX4 ⊢
  have z6 : w5.heap.size ≤ w6.heap.size := hb6.size
  have zl6 : w5.heap.size < w6.heap.size := lt_of_block hX4
  have hB6 := hB5.trans (hb6.mono (show w.heap.size + 1 ≤ _ by omega))
  replace HM0 := Lib.hid (Rep.below (R := FieldsR) HM0.out hb6 (by omega))
  replace HW := Lib.hid (HW.out.below hb6 (by omega))
  replace XW := Lib.hid ((hb6.block _ (by omega)).trans XW.out)
  replace H4 := Lib.hid (H4.out.below hb6 (by omega))
  have X4 := Lib.hid hX4
  clear hX4
  clear x0 x1
  obtain ⟨x0, x1⟩ := HX.out w6 hB6
  have X4c0 := cell_of_row _ _ 0 _ _ (0, 0) X4.out
  have X4c1 := cell_of_row _ _ 1 _ _ (0, 0) X4.out
  simp only [List.getElem?_toArray, List.getElem?_cons_zero, List.getElem?_cons_succ] at X4c0 X4c1
  go_wp2_with fail
  refine (implReply_any _ _ m0 a1 a2 a3 w6 HZ0.out hl0 HY0.out hh ht3 H4.out.rd (by omega) (HCT.out _ (HB0.out.trans (hB6.mono (by omega))))).mono ?_
  rintro e w7 ⟨u7, rfl, hu7, hb7⟩
  rw [HWO.out] at hu7 ⊢
  obtain ⟨A7, c7, rfl, -⟩ := Rep.slice_form hu7.rd
  have z7 : w6.heap.size ≤ w7.heap.size := hb7.size
  have hB7 := hB6.trans (hb7.mono (show w.heap.size + 1 ≤ _ by omega))
  replace HM0 := Lib.hid (Rep.below (R := FieldsR) HM0.out hb7 (by omega))
  replace HW := Lib.hid (HW.out.below hb7 (by omega))
  replace XW := Lib.hid ((hb7.block _ (by omega)).trans XW.out)
  replace H4 := Lib.hid (H4.out.below hb7 (by omega))
  replace X4 := Lib.hid ((hb7.block _ (by omega)).trans X4.out)
  have HG := Lib.hid hu7
  clear x0 x1
  obtain ⟨x0, x1⟩ := HX.out w7 hB7
  clear XWc0 XWc1
  clear X4c0 X4c1
  have XWc0 := cell_of_row _ _ 0 _ _ (0, 0) XW.out
  have XWc1 := cell_of_row _ _ 1 _ _ (0, 0) XW.out
  simp only [List.getElem?_toArray, List.getElem?_cons_zero, List.getElem?_cons_succ] at XWc0 XWc1
  have X4c0 := cell_of_row _ _ 0 _ _ (0, 0) X4.out
  have X4c1 := cell_of_row _ _ 1 _ _ (0, 0) X4.out
  simp only [List.getElem?_toArray, List.getElem?_cons_zero, List.getElem?_cons_succ] at X4c0 X4c1
  have yy7_0 : w.heap.size < w7.heap.size := by omega
  have yy7XW : w3.heap.size < w7.heap.size := by omega
  have yy7X4 : w5.heap.size < w7.heap.size := by omega
  go_wp2_with fail
  have hb8 := (Below.refl w7.heap.size w7).alloc (Nat.le_refl _) (.cells #[.string pr.1.1, .slice A7 pr.1.2.length c7] 28)
  have hXG := heap_alloc_new w7 (.cells #[.string pr.1.1, .slice A7 pr.1.2.length c7] 28)
  generalize w7.alloc (.cells #[.string pr.1.1, .slice A7 pr.1.2.length c7] 28) = w8 at hb8 hXG ⊢
  have z8 : w7.heap.size ≤ w8.heap.size := hb8.size
  have zl8 : w7.heap.size < w8.heap.size := lt_of_block hXG
  have hB8 := hB7.trans (hb8.mono (show w.heap.size + 1 ≤ _ by omega))
  replace HM0 := Lib.hid (Rep.below (R := FieldsR) HM0.out hb8 (by omega))
  replace HW := Lib.hid (HW.out.below hb8 (by omega))
  replace XW := Lib.hid ((hb8.block _ (by omega)).trans XW.out)
  replace H4 := Lib.hid (H4.out.below hb8 (by omega))
  replace X4 := Lib.hid ((hb8.block _ (by omega)).trans X4.out)
  replace HG := Lib.hid (HG.out.below hb8 (by omega))
  have XG := Lib.hid hXG
  clear hXG
  clear x0 x1
  obtain ⟨x0, x1⟩ := HX.out w8 hB8
  have XGc0 := cell_of_row _ _ 0 _ _ (0, 0) XG.out
  have XGc1 := cell_of_row _ _ 1 _ _ (0, 0) XG.out
  simp only [List.getElem?_toArray, List.getElem?_cons_zero, List.getElem?_cons_succ] at XGc0 XGc1
  go_wp2_with fail
  refine (eqMsg_any _ _ _ _ pr.1 w8 (show pr.1.1.size ≤ 1048576 by omega) (by omega) HG.out.rd HW.out.rd (by omega) (by omega)).mono ?_
  rintro e w9 ⟨rfl, hb9⟩
  have z9 : w8.heap.size ≤ w9.heap.size := hb9.size
  have hB9 := hB8.trans (hb9.mono (show w.heap.size + 1 ≤ _ by omega))
  replace HM0 := Lib.hid (Rep.below (R := FieldsR) HM0.out hb9 (by omega))
  replace HW := Lib.hid (HW.out.below hb9 (by omega))
  replace XW := Lib.hid ((hb9.block _ (by omega)).trans XW.out)
  replace H4 := Lib.hid (H4.out.below hb9 (by omega))
  replace X4 := Lib.hid ((hb9.block _ (by omega)).trans X4.out)
  replace HG := Lib.hid (HG.out.below hb9 (by omega))
  replace XG := Lib.hid ((hb9.block _ (by omega)).trans XG.out)
  clear x0 x1
  obtain ⟨x0, x1⟩ := HX.out w9 hB9
  clear XWc0 XWc1
  clear X4c0 X4c1
  clear XGc0 XGc1
  have XWc0 := cell_of_row _ _ 0 _ _ (0, 0) XW.out
  have XWc1 := cell_of_row _ _ 1 _ _ (0, 0) XW.out
  simp only [List.getElem?_toArray, List.getElem?_cons_zero, List.getElem?_cons_succ] at XWc0 XWc1
  have X4c0 := cell_of_row _ _ 0 _ _ (0, 0) X4.out
  have X4c1 := cell_of_row _ _ 1 _ _ (0, 0) X4.out
  simp only [List.getElem?_toArray, List.getElem?_cons_zero, List.getElem?_cons_succ] at X4c0 X4c1
  have XGc0 := cell_of_row _ _ 0 _ _ (0, 0) XG.out
  have XGc1 := cell_of_row _ _ 1 _ _ (0, 0) XG.out
  simp only [List.getElem?_toArray, List.getElem?_cons_zero, List.getElem?_cons_succ] at XGc0 XGc1
  go_wp2
  have hD : Below w9.heap.size w9 w9.drew := below_drew w9 _
  have zD : w9.drew.heap.size = w9.heap.size := rfl
  go_region_held3 (fun V => V.cell? ⟨w5.heap.size, 0, none⟩ = some (.string m0.1) ∧ V.cell? ⟨w5.heap.size, 1, none⟩ = some (.slice A5 m0.2.length c5) ∧ V.cell? ⟨w.heap.size, 0, none⟩ = some (.string m0.1) ∧ V.cell? ⟨w.heap.size, 1, none⟩ = some (.slice AM0 m0.2.length cM0)) (go_keep) (first | (go_at_call 6; refine (toMsg_any w.heap.size m0 _ w9.drew hl0 (Rep.below (R := FieldsR) HM0.out hD (by omega)) (show w.heap.size ≤ w9.heap.size by omega)).mono ?_; rintro e w10 ⟨uq, rfl, huq, hbq⟩; have hbq : Below w9.heap.size w9.drew w10 := hbq; have huq : FieldsR.mine w9.heap.size w10.heap.size w10 [uq] m0.2 := huq; have zq : w9.heap.size ≤ w10.heap.size := hbq.size; have qa0 := (hbq.cell (p := ⟨w5.heap.size, 0, none⟩) (show w5.heap.size < _ by omega)).trans X4c0; have qa1 := (hbq.cell (p := ⟨w5.heap.size, 1, none⟩) (show w5.heap.size < _ by omega)).trans X4c1; have qa2 := (hbq.cell (p := ⟨w.heap.size, 0, none⟩) (show w.heap.size < _ by omega)).trans x0; have qa3 := (hbq.cell (p := ⟨w.heap.size, 1, none⟩) (show w.heap.size < _ by omega)).trans x1) | (go_at_call 8; refine (eqMsg_any _ _ _ _ m0 w10 ht0 (by omega) (H4.out.below (hD.trans hbq) (by omega)).rd huq.rd (by omega) (Nat.le_refl _)).mono ?_; rintro e w11 ⟨rfl, hbr⟩; have zr : w10.heap.size ≤ w11.heap.size := hbr.size; have qb0 := (hbr.cell (p := ⟨w5.heap.size, 0, none⟩) (show w5.heap.size < _ by omega)).trans qa0; have qb1 := (hbr.cell (p := ⟨w5.heap.size, 1, none⟩) (show w5.heap.size < _ by omega)).trans qa1; have qb2 := (hbr.cell (p := ⟨w.heap.size, 0, none⟩) (show w.heap.size < _ by omega)).trans qa2; have qb3 := (hbr.cell (p := ⟨w.heap.size, 1, none⟩) (show w.heap.size < _ by omega)).trans qa3))
  have hb11 : Below w9.heap.size w9 w11 := (hD.trans (hbq.mono (show w9.heap.size ≤ _ by omega))).trans (hbr.mono (show w9.heap.size ≤ _ by omega))
  have hB11 := hB9.trans (hb11.mono (show w.heap.size + 1 ≤ _ by omega))
  have z11 : w9.heap.size ≤ w11.heap.size := hb11.size
  clear hbq hbr huq qa0 qa1 qa2 qa3 qb0 qb1 qb2 qb3 hD zD
  replace HM0 := Lib.hid (Rep.below (R := FieldsR) HM0.out hb11 (by omega))
  replace HW := Lib.hid (HW.out.below hb11 (by omega))
  replace XW := Lib.hid ((hb11.block _ (by omega)).trans XW.out)
  replace H4 := Lib.hid (H4.out.below hb11 (by omega))
  replace X4 := Lib.hid ((hb11.block _ (by omega)).trans X4.out)
  replace HG := Lib.hid (HG.out.below hb11 (by omega))
  replace XG := Lib.hid ((hb11.block _ (by omega)).trans XG.out)
  clear x0 x1
  obtain ⟨x0, x1⟩ := HX.out w11 hB11
  clear XWc0 XWc1
  clear X4c0 X4c1
  clear XGc0 XGc1
  have XWc0 := cell_of_row _ _ 0 _ _ (0, 0) XW.out
  have XWc1 := cell_of_row _ _ 1 _ _ (0, 0) XW.out
  simp only [List.getElem?_toArray, List.getElem?_cons_zero, List.getElem?_cons_succ] at XWc0 XWc1
  have X4c0 := cell_of_row _ _ 0 _ _ (0, 0) X4.out
  have X4c1 := cell_of_row _ _ 1 _ _ (0, 0) X4.out
  simp only [List.getElem?_toArray, List.getElem?_cons_zero, List.getElem?_cons_succ] at X4c0 X4c1
  have XGc0 := cell_of_row _ _ 0 _ _ (0, 0) XG.out
  have XGc1 := cell_of_row _ _ 1 _ _ (0, 0) XG.out
  simp only [List.getElem?_toArray, List.getElem?_cons_zero, List.getElem?_cons_succ] at XGc0 XGc1
  go_wp2_with fail
  refine (markMsg_any _ _ _ m0 1 w11 (by omega) (by decide) (by decide) H4.out (by omega)).mono ?_
  rintro e w12 ⟨rfl, hmk, ht12⟩
  have z12 : w11.heap.size ≤ w12.heap.size := ht12.size
  have hB12 := hB11.trans (ht12.below (show w.heap.size + 1 ≤ _ by omega) (by omega))
  replace HM0 := Lib.hid (Rep.turned (R := FieldsR) HM0.out ht12 (by omega) (by omega))
  replace HW := Lib.hid (HW.out.turned ht12 (by omega) (by omega))
  replace XW := Lib.hid ((ht12.block _ (by omega) (by omega)).trans XW.out)
  replace X4 := Lib.hid ((ht12.block _ (by omega) (by omega)).trans X4.out)
  replace HG := Lib.hid (HG.out.turned ht12 (by omega) (by omega))
  replace XG := Lib.hid ((ht12.block _ (by omega) (by omega)).trans XG.out)
  clear H4
  clear x0 x1
  obtain ⟨x0, x1⟩ := HX.out w12 hB12
  clear XWc0 XWc1
  clear X4c0 X4c1
  clear XGc0 XGc1
  have XWc0 := cell_of_row _ _ 0 _ _ (0, 0) XW.out
  have XWc1 := cell_of_row _ _ 1 _ _ (0, 0) XW.out
  simp only [List.getElem?_toArray, List.getElem?_cons_zero, List.getElem?_cons_succ] at XWc0 XWc1
  have X4c0 := cell_of_row _ _ 0 _ _ (0, 0) X4.out
  have X4c1 := cell_of_row _ _ 1 _ _ (0, 0) X4.out
  simp only [List.getElem?_toArray, List.getElem?_cons_zero, List.getElem?_cons_succ] at X4c0 X4c1
  have XGc0 := cell_of_row _ _ 0 _ _ (0, 0) XG.out
  have XGc1 := cell_of_row _ _ 1 _ _ (0, 0) XG.out
  simp only [List.getElem?_toArray, List.getElem?_cons_zero, List.getElem?_cons_succ] at XGc0 XGc1
  clear X4c0 X4c1
  clear X4
  have kk : ¬ ((1 : Int) + 2 * (m0.2.length : Int) < 0) := by omega
  go_wp2_with fail
  refine (eqMsg_any _ _ _ _ pr.1 w12 (show pr.1.1.size ≤ 1048576 by omega) (by omega) HG.out.rd HW.out.rd (by omega) (by omega)).mono ?_
  rintro e w13 ⟨rfl, hb13⟩
  have z13 : w12.heap.size ≤ w13.heap.size := hb13.size
  have hB13 := hB12.trans (hb13.mono (show w.heap.size + 1 ≤ _ by omega))
  replace HM0 := Lib.hid (Rep.below (R := FieldsR) HM0.out hb13 (by omega))
  replace HW := Lib.hid (HW.out.below hb13 (by omega))
  replace XW := Lib.hid ((hb13.block _ (by omega)).trans XW.out)
  replace HG := Lib.hid (HG.out.below hb13 (by omega))
  replace XG := Lib.hid ((hb13.block _ (by omega)).trans XG.out)
  clear x0 x1
  obtain ⟨x0, x1⟩ := HX.out w13 hB13
  clear XWc0 XWc1
  clear XGc0 XGc1
  have XWc0 := cell_of_row _ _ 0 _ _ (0, 0) XW.out
  have XWc1 := cell_of_row _ _ 1 _ _ (0, 0) XW.out
  simp only [List.getElem?_toArray, List.getElem?_cons_zero, List.getElem?_cons_succ] at XWc0 XWc1
  have XGc0 := cell_of_row _ _ 0 _ _ (0, 0) XG.out
  have XGc1 := cell_of_row _ _ 1 _ _ (0, 0) XG.out
  simp only [List.getElem?_toArray, List.getElem?_cons_zero, List.getElem?_cons_succ] at XGc0 XGc1
  clear kk
  go_wp2_with fail
  refine (markMsg_any _ _ _ pr.1 1 w13 (by omega) (by decide) (by decide) HG.out (by omega)).mono ?_
  rintro e w14 ⟨rfl, hmk14, ht14⟩
  have z14 : w13.heap.size ≤ w14.heap.size := ht14.size
  have hB14 := hB13.trans (ht14.below (show w.heap.size + 1 ≤ _ by omega) (by omega))
  replace HM0 := Lib.hid (Rep.turned (R := FieldsR) HM0.out ht14 (by omega) (by omega))
  replace HW := Lib.hid (HW.out.turned ht14 (by omega) (by omega))
  replace XW := Lib.hid ((ht14.block _ (by omega) (by omega)).trans XW.out)
  replace XG := Lib.hid ((ht14.block _ (by omega) (by omega)).trans XG.out)
  clear HG
  have HM := Lib.hid hmk14
  clear x0 x1
  obtain ⟨x0, x1⟩ := HX.out w14 hB14
  clear XWc0 XWc1
  clear XGc0 XGc1
  have XWc0 := cell_of_row _ _ 0 _ _ (0, 0) XW.out
  have XWc1 := cell_of_row _ _ 1 _ _ (0, 0) XW.out
  simp only [List.getElem?_toArray, List.getElem?_cons_zero, List.getElem?_cons_succ] at XWc0 XWc1
  have XGc0 := cell_of_row _ _ 0 _ _ (0, 0) XG.out
  have XGc1 := cell_of_row _ _ 1 _ _ (0, 0) XG.out
  simp only [List.getElem?_toArray, List.getElem?_cons_zero, List.getElem?_cons_succ] at XGc0 XGc1
  have kk : ¬ ((1 : Int) + 2 * (pr.1.2.length : Int) < 0) := by omega
  go_wp2_with fail
  refine (heldMsg_any _ _ pr.1.1 pr.1.2.length 1 w14 (by omega) (by decide) (by decide) HM.out.rd (by omega)).mono ?_
  rintro e w15 ⟨rfl, hb15⟩
  have z15 : w14.heap.size ≤ w15.heap.size := hb15.size
  have hB15 := hB14.trans (hb15.mono (show w.heap.size + 1 ≤ _ by omega))
  replace HM0 := Lib.hid (Rep.below (R := FieldsR) HM0.out hb15 (by omega))
  replace HW := Lib.hid (HW.out.below hb15 (by omega))
  replace XW := Lib.hid ((hb15.block _ (by omega)).trans XW.out)
  replace XG := Lib.hid ((hb15.block _ (by omega)).trans XG.out)
  replace HM := Lib.hid (HM.out.below hb15 (by omega))
  clear x0 x1
  obtain ⟨x0, x1⟩ := HX.out w15 hB15
  clear XWc0 XWc1
  clear XGc0 XGc1
  have XWc0 := cell_of_row _ _ 0 _ _ (0, 0) XW.out
  have XWc1 := cell_of_row _ _ 1 _ _ (0, 0) XW.out
  simp only [List.getElem?_toArray, List.getElem?_cons_zero, List.getElem?_cons_succ] at XWc0 XWc1
  have XGc0 := cell_of_row _ _ 0 _ _ (0, 0) XG.out
  have XGc1 := cell_of_row _ _ 1 _ _ (0, 0) XG.out
  simp only [List.getElem?_toArray, List.getElem?_cons_zero, List.getElem?_cons_succ] at XGc0 XGc1
  go_wp2_with fail
  refine (toMsg_any w.heap.size m0 _ w15 hl0 HM0.out (by omega)).mono ?_
  rintro e w16 ⟨u16, rfl, hu16, hb16⟩
  obtain ⟨A16, c16, rfl, -⟩ := Rep.slice_form hu16.rd
  have z16 : w15.heap.size ≤ w16.heap.size := hb16.size
  have hB16 := hB15.trans (hb16.mono (show w.heap.size + 1 ≤ _ by omega))
  replace HM0 := Lib.hid (Rep.below (R := FieldsR) HM0.out hb16 (by omega))
  replace HW := Lib.hid (HW.out.below hb16 (by omega))
  replace XW := Lib.hid ((hb16.block _ (by omega)).trans XW.out)
  replace XG := Lib.hid ((hb16.block _ (by omega)).trans XG.out)
  replace HM := Lib.hid (HM.out.below hb16 (by omega))
  have H5 := Lib.hid hu16
  clear x0 x1
  obtain ⟨x0, x1⟩ := HX.out w16 hB16
  clear XWc0 XWc1
  clear XGc0 XGc1
  have XWc0 := cell_of_row _ _ 0 _ _ (0, 0) XW.out
  have XWc1 := cell_of_row _ _ 1 _ _ (0, 0) XW.out
  simp only [List.getElem?_toArray, List.getElem?_cons_zero, List.getElem?_cons_succ] at XWc0 XWc1
  have XGc0 := cell_of_row _ _ 0 _ _ (0, 0) XG.out
  have XGc1 := cell_of_row _ _ 1 _ _ (0, 0) XG.out
  simp only [List.getElem?_toArray, List.getElem?_cons_zero, List.getElem?_cons_succ] at XGc0 XGc1
  go_wp2_with fail
  refine (implReply_any _ _ m0 a1 a2 a3 w16 HZ0.out hl0 HY0.out hh ht3 H5.out.rd (by omega) (HCT.out _ (HB0.out.trans (hB16.mono (by omega))))).mono ?_
  rintro e w17 ⟨u17, rfl, hu17, hb17⟩
  rw [HWO.out] at hu17 ⊢
  obtain ⟨A17, c17, rfl, -⟩ := Rep.slice_form hu17.rd
  have z17 : w16.heap.size ≤ w17.heap.size := hb17.size
  have hB17 := hB16.trans (hb17.mono (show w.heap.size + 1 ≤ _ by omega))
  replace HM0 := Lib.hid (Rep.below (R := FieldsR) HM0.out hb17 (by omega))
  replace HW := Lib.hid (HW.out.below hb17 (by omega))
  replace XW := Lib.hid ((hb17.block _ (by omega)).trans XW.out)
  replace XG := Lib.hid ((hb17.block _ (by omega)).trans XG.out)
  replace HM := Lib.hid (HM.out.below hb17 (by omega))
  replace H5 := Lib.hid (H5.out.below hb17 (by omega))
  have HH := Lib.hid hu17
  clear x0 x1
  obtain ⟨x0, x1⟩ := HX.out w17 hB17
  clear XWc0 XWc1
  clear XGc0 XGc1
  have XWc0 := cell_of_row _ _ 0 _ _ (0, 0) XW.out
  have XWc1 := cell_of_row _ _ 1 _ _ (0, 0) XW.out
  simp only [List.getElem?_toArray, List.getElem?_cons_zero, List.getElem?_cons_succ] at XWc0 XWc1
  have XGc0 := cell_of_row _ _ 0 _ _ (0, 0) XG.out
  have XGc1 := cell_of_row _ _ 1 _ _ (0, 0) XG.out
  simp only [List.getElem?_toArray, List.getElem?_cons_zero, List.getElem?_cons_succ] at XGc0 XGc1
  have yy17_0 : w.heap.size < w17.heap.size := by omega
  have yy17XW : w3.heap.size < w17.heap.size := by omega
  have yy17XG : w7.heap.size < w17.heap.size := by omega
  go_wp2_with fail
  have hb18 := (Below.refl w17.heap.size w17).alloc (Nat.le_refl _) (.cells #[.string pr.1.1, .slice A17 pr.1.2.length c17] 28)
  have hXH := heap_alloc_new w17 (.cells #[.string pr.1.1, .slice A17 pr.1.2.length c17] 28)
  generalize w17.alloc (.cells #[.string pr.1.1, .slice A17 pr.1.2.length c17] 28) = w18 at hb18 hXH ⊢
  have z18 : w17.heap.size ≤ w18.heap.size := hb18.size
  have zl18 : w17.heap.size < w18.heap.size := lt_of_block hXH
  have hB18 := hB17.trans (hb18.mono (show w.heap.size + 1 ≤ _ by omega))
  replace HM0 := Lib.hid (Rep.below (R := FieldsR) HM0.out hb18 (by omega))
  replace HW := Lib.hid (HW.out.below hb18 (by omega))
  replace XW := Lib.hid ((hb18.block _ (by omega)).trans XW.out)
  replace XG := Lib.hid ((hb18.block _ (by omega)).trans XG.out)
  replace HM := Lib.hid (HM.out.below hb18 (by omega))
  replace H5 := Lib.hid (H5.out.below hb18 (by omega))
  replace HH := Lib.hid (HH.out.below hb18 (by omega))
  have XH := Lib.hid hXH
  clear hXH
  clear x0 x1
  obtain ⟨x0, x1⟩ := HX.out w18 hB18
  have XHc0 := cell_of_row _ _ 0 _ _ (0, 0) XH.out
  have XHc1 := cell_of_row _ _ 1 _ _ (0, 0) XH.out
  simp only [List.getElem?_toArray, List.getElem?_cons_zero, List.getElem?_cons_succ] at XHc0 XHc1
  go_wp2_with fail
  refine (eqMsg_any _ _ _ _ pr.1 w18 (show pr.1.1.size ≤ 1048576 by omega) (by omega) HH.out.rd HW.out.rd (by omega) (by omega)).mono ?_
  rintro e w19 ⟨rfl, hb19⟩
  have z19 : w18.heap.size ≤ w19.heap.size := hb19.size
  have hB19 := hB18.trans (hb19.mono (show w.heap.size + 1 ≤ _ by omega))
  replace HM0 := Lib.hid (Rep.below (R := FieldsR) HM0.out hb19 (by omega))
  replace HW := Lib.hid (HW.out.below hb19 (by omega))
  replace XW := Lib.hid ((hb19.block _ (by omega)).trans XW.out)
  replace XG := Lib.hid ((hb19.block _ (by omega)).trans XG.out)
  replace HM := Lib.hid (HM.out.below hb19 (by omega))
  replace H5 := Lib.hid (H5.out.below hb19 (by omega))
  replace HH := Lib.hid (HH.out.below hb19 (by omega))
  replace XH := Lib.hid ((hb19.block _ (by omega)).trans XH.out)
  clear x0 x1
  obtain ⟨x0, x1⟩ := HX.out w19 hB19
  clear XWc0 XWc1
  clear XGc0 XGc1
  clear XHc0 XHc1
  have XWc0 := cell_of_row _ _ 0 _ _ (0, 0) XW.out
  have XWc1 := cell_of_row _ _ 1 _ _ (0, 0) XW.out
  simp only [List.getElem?_toArray, List.getElem?_cons_zero, List.getElem?_cons_succ] at XWc0 XWc1
  have XGc0 := cell_of_row _ _ 0 _ _ (0, 0) XG.out
  have XGc1 := cell_of_row _ _ 1 _ _ (0, 0) XG.out
  simp only [List.getElem?_toArray, List.getElem?_cons_zero, List.getElem?_cons_succ] at XGc0 XGc1
  have XHc0 := cell_of_row _ _ 0 _ _ (0, 0) XH.out
  have XHc1 := cell_of_row _ _ 1 _ _ (0, 0) XH.out
  simp only [List.getElem?_toArray, List.getElem?_cons_zero, List.getElem?_cons_succ] at XHc0 XHc1
  go_wp2_with fail
  refine (heldMsg_any _ _ pr.1.1 pr.1.2.length 1 w19 (by omega) (by decide) (by decide) HM.out.rd (by omega)).mono ?_
  rintro e w20 ⟨rfl, hb20⟩
  have z20 : w19.heap.size ≤ w20.heap.size := hb20.size
  have hB20 := hB19.trans (hb20.mono (show w.heap.size + 1 ≤ _ by omega))
  replace HM0 := Lib.hid (Rep.below (R := FieldsR) HM0.out hb20 (by omega))
  replace HW := Lib.hid (HW.out.below hb20 (by omega))
  replace XW := Lib.hid ((hb20.block _ (by omega)).trans XW.out)
  replace XG := Lib.hid ((hb20.block _ (by omega)).trans XG.out)
  replace HM := Lib.hid (HM.out.below hb20 (by omega))
  replace H5 := Lib.hid (H5.out.below hb20 (by omega))
  replace HH := Lib.hid (HH.out.below hb20 (by omega))
  replace XH := Lib.hid ((hb20.block _ (by omega)).trans XH.out)
  clear x0 x1
  obtain ⟨x0, x1⟩ := HX.out w20 hB20
  clear XWc0 XWc1
  clear XGc0 XGc1
  clear XHc0 XHc1
  have XWc0 := cell_of_row _ _ 0 _ _ (0, 0) XW.out
  have XWc1 := cell_of_row _ _ 1 _ _ (0, 0) XW.out
  simp only [List.getElem?_toArray, List.getElem?_cons_zero, List.getElem?_cons_succ] at XWc0 XWc1
  have XGc0 := cell_of_row _ _ 0 _ _ (0, 0) XG.out
  have XGc1 := cell_of_row _ _ 1 _ _ (0, 0) XG.out
  simp only [List.getElem?_toArray, List.getElem?_cons_zero, List.getElem?_cons_succ] at XGc0 XGc1
  have XHc0 := cell_of_row _ _ 0 _ _ (0, 0) XH.out
  have XHc1 := cell_of_row _ _ 1 _ _ (0, 0) XH.out
  simp only [List.getElem?_toArray, List.getElem?_cons_zero, List.getElem?_cons_succ] at XHc0 XHc1
  go_wp2
  go_ret
  exact ⟨rfl, (HB0.out.trans (hB20.mono (by omega)))⟩

set_option maxRecDepth 100000 in
theorem t0 : (Tryz.prog.globals[2]?).map (·.type) = some 86 := by kernel_rfl
set_option maxRecDepth 100000 in
theorem g0 : Tryz.prog.globalNamed "loop.example/g00735/impl.errNotDigits" = some 2 := by kernel_rfl
set_option maxRecDepth 100000 in
theorem cellsE : Tryz.prog.cellsOf 163 = 1 := by kernel_rfl
set_option maxRecDepth 100000 in
theorem cellsS : Tryz.prog.cellsOf 9 = 1 := by kernel_rfl
set_option maxRecDepth 100000 in
theorem star : "*" ++ "errors.errorString" = "*errors.errorString" := by decide
set_option maxRecDepth 100000 in
theorem rowE (u : TypeId) (h : Tryz.prog.typeName? 3 u = some "*errors.errorString") : u = 149 :=
  typeName_ptr_named (nm := "errors.errorString") (by rw [star]; kernel_rfl) (by kernel_rfl) (by decide) u (by rw [star]; exact h)
set_option maxRecDepth 100000 in
theorem datC : (Rows.laid_loop_example_g00735_impl_codeTexts : DataW Unit) = .agg (rsTexts.map fun s => .lit (.string s)) := by kernel_rfl

set_option maxRecDepth 100000 in
theorem laidOut : laidOutB Tryz.prog = true := by kernel_rfl
set_option maxRecDepth 100000 in
theorem rowed : allRowed Tryz.prog Tryz.f3.params.toList = true := by kernel_rfl
set_option maxRecDepth 100000 in
theorem resT : Tryz.f3.resultTypes = #[4] := by kernel_rfl
set_option maxRecDepth 100000 in
theorem door_met (os : Os) (args : Array Value) : laidMetH Tryz.prog Rows.fnExactReplyRow.laid ((World.doorLaid Tryz.prog 400 os).forCall (fun _ _ => 0) ⟨#[], args, []⟩).memory :=
  laidMetH_of_parts3 (fuel := 8) (laidMet_of_run' 8 (by kernel_rfl) (by kernel_rfl)) (by kernel_rfl) (by kernel_rfl)

set_option maxRecDepth 100000 in
theorem lifted (os : Os) (started : os.Started) (H : Type) (enc : TypeId × Value → H) :
    ReturnsInHanded {} Tryz.checked os 3 .any (fun w args => (Rows.fnExactReplySpec.pre enc Tryz.prog Tryz.f3 [] false w args ∧ laidMetH Tryz.prog Rows.fnExactReplyRow.laid w) ∧ sizedMet enc Tryz.prog Tryz.f3 (OpenSpec.ofChange Rows.fnExactReplySpec) false w args)
      (Rows.fnExactReplySpec.post enc Tryz.prog Tryz.f3 false true false false) := by
  refine returnsInHanded_of_change_and (C := Tryz.checked) (X := fun w _ => laidMetH Tryz.prog Rows.fnExactReplyRow.laid w) (fun _ _ _ hh h => h.of_heap hh) own started (by kernel_rfl) Tryz.func3
    (ChangeSpec.witness_shaped (enc := enc) (C := Tryz.checked) (os := os) (X := fun w _ => laidMetH Tryz.prog Rows.fnExactReplyRow.laid w) false (World.doorLaid Tryz.prog 400 os) #[.agg #[.string ByteArray.empty, .slice none 0 0], .int .i64 0, .string ByteArray.empty, .string ByteArray.empty] 8 rfl (World.shaped_of_RefB (by kernel_rfl) (by kernel_rfl)) (by kernel_rfl) (by kernel_rfl) (by kernel_rfl) (door_met os _)) ?_
  intro W base args ds gs before hval0 hW _ _ hL0 _
  have hval : ∀ (j : Nat) t v, Tryz.f3.params[j]? = some t → args[j]? = some v → Value.okWide Tryz.prog W .any base t v := hval0
  have hW' := hW
  obtain ⟨p, q, hA0, hV, rfl, hfz, hnd⟩ := hW
  have hA : DataW.TrodAll enc Tryz.prog W 0 (fun _ => true) true Tryz.f3.params.toList args.toList ds p := hA0
  rw [Tryz.params3] at hA hval
  have hL := hL0
  rw [MakeChecks.laidMetH_plain _ _ _ (by kernel_rfl)] at hL
  obtain ⟨b0, s0, hv0, _, _, _⟩ := laid_sentinel hL.tail.tail.tail g0 t0 Tryz.underlying86 rowE Tryz.underlying149 Tryz.underlying163 rfl rfl Tryz.underlying9 cellsE cellsS
  have hc0 : W.cell? ⟨2, 0, none⟩ = some (.iface 149 (.pointer (some b0))) := by simpa using World.var?_cell g0 hv0 0
  have hlt0 : 2 < W.heap.size := by
    rcases Nat.lt_or_ge 2 W.heap.size with h | h
    · exact h
    · simp [World.cell?, Array.getElem?_eq_none h] at hc0
  have hCT : laidMet Tryz.prog (("loop.example/g00735/impl.codeTexts", .agg (rsTexts.map fun s => .lit (.string s))) :: []) W := by rw [← datC]; exact hL.tail.tail.tail.tail
  have hvC := codes_var hCT
  have hct : codesIn W := codes_in hvC
  have hltC : 0 < W.heap.size := by
    have h0 := hct 0 _ rfl
    rcases Nat.lt_or_ge 0 W.heap.size with h | h
    · exact h
    · simp [World.cell?, Array.getElem?_eq_none h] at h0
  obtain ⟨v0, vs0, d0, ds0, p0, q0, hargs, rfl, rfl, h0, r0⟩ := trodAll_cons hA
  obtain ⟨v1, vs1, d1, ds1, p1, q1, rfl, rfl, rfl, h1, r1⟩ := trodAll_cons r0
  obtain ⟨v2, vs2, d2, ds2, p2, q2, rfl, rfl, rfl, h2, r2⟩ := trodAll_cons r1
  obtain ⟨v3, vs3, d3, ds3, p3, q3, rfl, rfl, rfl, h3, r3⟩ := trodAll_cons r2
  obtain ⟨rfl, rfl, rfl⟩ := trodAll_nil r3
  obtain rfl : args = #[v0, v1, v2, v3] := by cases args; simp_all
  obtain ⟨rfl, rfl⟩ := hV.unique (vars_err enc g0 t0 Tryz.underlying86 hv0 trivial (vars_codes enc _ hvC (vars_nil enc _)))
  obtain ⟨m0, u0, rfl, w0, z0, n0, y0⟩ := open_msg (hval 0 24 v0 rfl rfl) h0
  obtain ⟨a1, rfl, rfl, rfl, w1⟩ := open_int Tryz.underlying3 (hval 1 3 v1 rfl rfl) h1
  obtain ⟨a2, rfl, rfl, rfl, w2⟩ := open_string Tryz.underlying9 (hval 2 9 v2 rfl rfl) h2
  obtain ⟨a3, rfl, rfl, rfl, w3⟩ := open_string Tryz.underlying9 (hval 3 9 v3 rfl rfl) h3
  clear hA0 hval0
  refine (walk W _ hc0 hct _ _ _ _ _ w0 z0 n0 y0 w1 w2 w3).mono fun e W' ⟨he, hg⟩ => ?_
  subst he
  exact ⟨_, rfl, post_true laidOut rowed hW' rfl resT Tryz.underlying4 hg (vars_err enc g0 t0 Tryz.underlying86 (var?_below hg g0 hlt0 hv0) trivial (vars_codes enc _ (var?_below hg gCodes hltC hvC) (vars_nil enc _)))⟩

set_option maxRecDepth 100000 in
theorem over : Rows.fnExactReplyRow.holds Tryz.pinned (OpenSpec.ofChange Rows.fnExactReplySpec) :=
  OpenClaim.holds_of_wide 3 Tryz.f3 rfl rfl rfl rfl rfl rfl rfl ⟨rfl, rfl, rfl, rfl, rfl⟩ rfl rfl rfl rfl rfl (by kernel_rfl) Tryz.func3 (by kernel_rfl)
    (of_decide_eq_true (by kernel_rfl)) (by unfold Func.isWrapper; first | (rw [if_pos (by decide +kernel)]; kernel_rfl) | (rw [if_neg (by decide +kernel)]; exact ⟨rfl, rfl⟩))
    (fun os started H enc _ => lifted os started H enc)

set_option maxRecDepth 100000 in
theorem said : Rows.FnExactReplySaid :=
  over

set_option maxRecDepth 100000 in
theorem plain (f : FuncId) (fn : Func) (hf : Tryz.pinned.checked.prog.funcNamed "loop.example/g00735/laws.FnExactReply" = some f) (hfn : Tryz.pinned.checked.prog.funcs[f]? = some fn) :
    Rows.fnExactReplyCard.stood.looks = Tryz.pinned.checked.prog.looks [] ∧ ∀ (j : Nat) t, fn.params[j]? = some t → Tryz.pinned.checked.prog.wantsStandIn t = false := by
  obtain rfl : f = 3 := Option.some.inj ((show Tryz.prog.funcNamed "loop.example/g00735/laws.FnExactReply" = some 3 by kernel_rfl).symm.trans hf) |>.symm
  obtain rfl : fn = Tryz.f3 := (Option.some.inj (Tryz.func3.symm.trans hfn)).symm
  refine ⟨by kernel_rfl, fun j t ht => ?_⟩
  rw [Tryz.params3] at ht
  have hm : t ∈ [24, 3, 9, 9] := by simpa using Array.mem_of_getElem? ht
  have hall : ([24, 3, 9, 9].all fun u => !Tryz.prog.wantsStandIn u) = true := by kernel_rfl
  exact (show Tryz.prog.wantsStandIn t = false by simpa using List.all_eq_true.1 hall t hm)

set_option maxRecDepth 100000 in
theorem proved : Rows.FnExactReplyCardSaid :=
  Claim7.holds_tied_plain_at .later [] _ _ _ _ said (fun _ h => by cases h) (by kernel_rfl) (fun _ h => by cases h) fnExactReply_row_tie rfl ⟨rfl, rfl⟩ (by kernel_rfl) rfl plain (by kernel_rfl)
#print axioms proved
end Go.Proofs.YtdjlhijaadombaaGreatDoor.fnExactReply
