/- FnExactMsgSame: for every argument the law answers true: the program's function returns what the reference returns; the listed package variables hold what the program's text lays (tied). -/
import Derived.Test.YtkkbhlaakhkjnaaPost
import Derived.Test.YtkkbhlaakhkjnaaOpenMsg
import Derived.Test.YtkkbhlaakhkjnaaSameI
import Derived.Test.YtkkbhlaakhkjnaaFieldM
namespace Go.Proofs.Ytkkbhlaakhkjnaa.fnExactMsgSame
open Go.ChangeShapes Go.WideShapes Go.ChangeAt Go.RowKit
open Go.WideMaps Go.WideElems
open Go.ChangeMaps (open_string shut_string)
set_option linter.unusedVariables false

set_option maxRecDepth 100000 in
theorem own : ownKnob Try.prog.godebug = none := by kernel_rfl

set_option maxRecDepth 100000 in
set_option maxHeartbeats 8000000 in
theorem walk (w : World)  (m0 : MsgD) (u0 : Value) (m1 : MsgD) (u1 : Value) (w0 : FieldsR.rd w.heap.size w [u0] m0.2) (z0 : m0.1.size ≤ maxLen) (n0 : m0.2.length ≤ maxLen) (y0 : ∀ x ∈ m0.2, (Lit.int .i64 x.1).wf = true ∧ x.2.size ≤ maxLen) (w1 : FieldsR.rd w.heap.size w [u1] m1.2) (z1 : m1.1.size ≤ maxLen) (n1 : m1.2.length ≤ maxLen) (y1 : ∀ x ∈ m1.2, (Lit.int .i64 x.1).wf = true ∧ x.2.size ≤ maxLen) :
    Calls Try.prog 5 #[.agg #[.string m0.1, u0], .agg #[.string m1.1, u1]] w fun e w' => e = .returned (.bool true) ∧ Below w.heap.size w w' := by
  obtain ⟨AM0, cM0, rfl, -⟩ := Rep.slice_form w0
  obtain ⟨AM1, cM1, rfl, -⟩ := Rep.slice_form w1
  have HM0 := Lib.hid w0
  have HN0 := Lib.hid n0
  have HZ0 := Lib.hid z0
  have HY0 : Hid (∀ x ∈ m0.2, x.2.size ≤ maxLen) := Lib.hid (fun x hx => (y0 x hx).2)
  have HI0 : Hid (∀ x ∈ m0.2, (Lit.int .i64 x.1).wf = true) := Lib.hid (fun x hx => (y0 x hx).1)
  have HM1 := Lib.hid w1
  have HN1 := Lib.hid n1
  have HZ1 := Lib.hid z1
  have HY1 : Hid (∀ x ∈ m1.2, x.2.size ≤ maxLen) := Lib.hid (fun x hx => (y1 x hx).2)
  have HI1 : Hid (∀ x ∈ m1.2, (Lit.int .i64 x.1).wf = true) := Lib.hid (fun x hx => (y1 x hx).1)
  have HB0 : Hid (Below w.heap.size w ((w.alloc (.cells #[.string m0.1, .slice AM0 m0.2.length cM0] 24)).alloc (.cells #[.string m1.1, .slice AM1 m1.2.length cM1] 24))) := Lib.hid (((Below.refl w.heap.size w).alloc (Nat.le_refl _) (.cells #[.string m0.1, .slice AM0 m0.2.length cM0] 24)).alloc (by simp <;> omega) (.cells #[.string m1.1, .slice AM1 m1.2.length cM1] 24))
  have HX : Hid (∀ wr, Below (w.heap.size + 2) ((w.alloc (.cells #[.string m0.1, .slice AM0 m0.2.length cM0] 24)).alloc (.cells #[.string m1.1, .slice AM1 m1.2.length cM1] 24)) wr → wr.cell? ⟨w.heap.size, 0, none⟩ = some (.string m0.1) ∧ wr.cell? ⟨w.heap.size, 1, none⟩ = some (.slice AM0 m0.2.length cM0) ∧ wr.cell? ⟨w.heap.size + 1, 0, none⟩ = some (.string m1.1) ∧ wr.cell? ⟨w.heap.size + 1, 1, none⟩ = some (.slice AM1 m1.2.length cM1)) := Lib.hid fun wr hw => ⟨(hw.cell (p := ⟨w.heap.size, 0, none⟩) (show w.heap.size < _ by omega)).trans (by simp), (hw.cell (p := ⟨w.heap.size, 1, none⟩) (show w.heap.size < _ by omega)).trans (by simp), (hw.cell (p := ⟨w.heap.size + 1, 0, none⟩) (show w.heap.size + 1 < _ by omega)).trans (by simp), (hw.cell (p := ⟨w.heap.size + 1, 1, none⟩) (show w.heap.size + 1 < _ by omega)).trans (by simp)⟩
  clear w0 z0 n0 y0 w1 z1 n1 y1
  go_enter Try.func5, Try.ntmps5
  go_wp2_with fail
  replace HM0 := Lib.hid (Rep.below (R := FieldsR) HM0.out HB0.out (Nat.le_refl _))
  replace HM1 := Lib.hid (Rep.below (R := FieldsR) HM1.out HB0.out (Nat.le_refl _))
  refine (szMsg_any w.heap.size _ m0 1048576 _ HN0.out HZ0.out HY0.out HM0.out (by first | omega | (simp <;> omega)) (by omega) (by omega)).mono ?_
  rintro e w1 ⟨r0, rfl, hr0, hb1⟩
  have z1 : w.heap.size + 2 ≤ w1.heap.size := by have := hb1.size; simp at this; omega
  have hB1 : Below (w.heap.size + 2) ((w.alloc (.cells #[.string m0.1, .slice AM0 m0.2.length cM0] 24)).alloc (.cells #[.string m1.1, .slice AM1 m1.2.length cM1] 24)) w1 := hb1.mono (by simp <;> omega)
  rcases hr0 with rfl | ⟨hr0, hp0⟩
  · go_wp2
    go_ret
    exact ⟨rfl, (HB0.out.trans (hB1.mono (by omega)))⟩
  have hsz0 : msgSz m0 ≤ 1048576 := by omega
  have hl0 : m0.2.length ≤ 1048576 := by unfold msgSz fieldsSz at hsz0; omega
  have ht0 : m0.1.size ≤ 1048576 := by unfold msgSz at hsz0; omega
  have HS0 : Hid (∀ x ∈ m0.2, x.2.size ≤ 1048576) := Lib.hid (fun x hx => by have := le_sum (fun y : FieldD => y.2.size) hx; unfold msgSz fieldsSz at hsz0; omega)
  have hq0 : r0 ≤ 1048576 := by omega
  replace HM0 := Lib.hid (Rep.below (R := FieldsR) HM0.out (hB1.mono (by omega)) (Nat.le_refl _))
  replace HM1 := Lib.hid (Rep.below (R := FieldsR) HM1.out (hB1.mono (by omega)) (Nat.le_refl _))
  obtain ⟨x0, x1, x2, x3⟩ := HX.out w1 hB1
  have HR0 := Lib.hid hr0
  clear hr0 hsz0 hb1
  go_wp2_with fail
  refine (szMsg_any w.heap.size _ m1 r0 _ HN1.out HZ1.out HY1.out HM1.out (by first | omega | (simp <;> omega)) (by omega) (by omega)).mono ?_
  rintro e w2 ⟨r1, rfl, hr1, hb2⟩
  have z2 : w1.heap.size ≤ w2.heap.size := hb2.size
  have hB2 := hB1.trans (hb2.mono (show w.heap.size + 2 ≤ _ by omega))
  rcases hr1 with rfl | ⟨hr1, hp1⟩
  · go_wp2
    go_ret
    exact ⟨rfl, (HB0.out.trans (hB2.mono (by omega)))⟩
  have hsz1 : msgSz m1 ≤ 1048576 := by omega
  have hl1 : m1.2.length ≤ 1048576 := by unfold msgSz fieldsSz at hsz1; omega
  have ht1 : m1.1.size ≤ 1048576 := by unfold msgSz at hsz1; omega
  have HS1 : Hid (∀ x ∈ m1.2, x.2.size ≤ 1048576) := Lib.hid (fun x hx => by have := le_sum (fun y : FieldD => y.2.size) hx; unfold msgSz fieldsSz at hsz1; omega)
  have hq1 : r1 ≤ 1048576 := by omega
  replace HM0 := Lib.hid (Rep.below (R := FieldsR) HM0.out hb2 (by omega))
  replace HM1 := Lib.hid (Rep.below (R := FieldsR) HM1.out hb2 (by omega))
  clear x0 x1 x2 x3
  obtain ⟨x0, x1, x2, x3⟩ := HX.out w2 hB2
  have HR1 := Lib.hid hr1
  clear hr1 hsz1 hb2
  skip
  go_wp2
  have tok1 : True := trivial
  have hD : Below w2.heap.size w2 w2.drew := below_drew w2 _
  have zD : w2.drew.heap.size = w2.heap.size := rfl
  go_region_held3 (fun V => V.cell? ⟨w.heap.size, 0, none⟩ = some (.string m0.1) ∧ V.cell? ⟨w.heap.size, 1, none⟩ = some (.slice AM0 m0.2.length cM0) ∧ V.cell? ⟨w.heap.size + 1, 0, none⟩ = some (.string m1.1) ∧ V.cell? ⟨w.heap.size + 1, 1, none⟩ = some (.slice AM1 m1.2.length cM1)) (go_keep) (first | (go_at_call 8; have tok2 := tok1; clear tok1; refine (toMsg_any w.heap.size m0 _ w2.drew hl0 (Rep.below (R := FieldsR) HM0.out hD (by omega)) (show w.heap.size ≤ w2.heap.size by omega)).mono ?_; rintro e w3 ⟨u3, rfl, hu3, hb3⟩; have hb3 : Below w2.heap.size w2.drew w3 := hb3; have hu3 : FieldsR.mine w2.heap.size w3.heap.size w3 [u3] m0.2 := hu3; have z3 : w2.heap.size ≤ w3.heap.size := hb3.size; obtain ⟨A3, c3, rfl, -⟩ := Rep.slice_form hu3.rd; have qa0 := (hb3.cell (p := ⟨w.heap.size, 0, none⟩) (show w.heap.size < _ by omega)).trans x0; have qa1 := (hb3.cell (p := ⟨w.heap.size, 1, none⟩) (show w.heap.size < _ by omega)).trans x1; have qa2 := (hb3.cell (p := ⟨w.heap.size + 1, 0, none⟩) (show w.heap.size + 1 < _ by omega)).trans x2; have qa3 := (hb3.cell (p := ⟨w.heap.size + 1, 1, none⟩) (show w.heap.size + 1 < _ by omega)).trans x3) | (go_at_call 8; refine (toMsg_any w.heap.size m1 _ w3 hl1 (Rep.below (R := FieldsR) HM1.out (hD.trans hb3) (by omega)) (by omega)).mono ?_; rintro e w4 ⟨u4, rfl, hu4, hb4⟩; have z4 : w3.heap.size ≤ w4.heap.size := hb4.size; obtain ⟨A4, c4, rfl, -⟩ := Rep.slice_form hu4.rd; have qb0 := (hb4.cell (p := ⟨w.heap.size, 0, none⟩) (show w.heap.size < _ by omega)).trans qa0; have qb1 := (hb4.cell (p := ⟨w.heap.size, 1, none⟩) (show w.heap.size < _ by omega)).trans qa1; have qb2 := (hb4.cell (p := ⟨w.heap.size + 1, 0, none⟩) (show w.heap.size + 1 < _ by omega)).trans qa2; have qb3 := (hb4.cell (p := ⟨w.heap.size + 1, 1, none⟩) (show w.heap.size + 1 < _ by omega)).trans qa3) | (go_at_call 15; refine (specMsgSame_any _ _ _ _ m0 m1 w4 hl0 hl1 (Rep.below (R := FieldsR) hu3.rd hb4 (Nat.le_refl _)) hu4.rd (by omega) (Nat.le_refl _)).mono ?_; rintro e w5 ⟨rfl, hb5⟩; have z5 : w4.heap.size ≤ w5.heap.size := hb5.size; have qc0 := (hb5.cell (p := ⟨w.heap.size, 0, none⟩) (show w.heap.size < _ by omega)).trans qb0; have qc1 := (hb5.cell (p := ⟨w.heap.size, 1, none⟩) (show w.heap.size < _ by omega)).trans qb1; have qc2 := (hb5.cell (p := ⟨w.heap.size + 1, 0, none⟩) (show w.heap.size + 1 < _ by omega)).trans qb2; have qc3 := (hb5.cell (p := ⟨w.heap.size + 1, 1, none⟩) (show w.heap.size + 1 < _ by omega)).trans qb3))
  have hbx : Below w2.heap.size w2 w5 := ((hD.trans hb3).trans (hb4.mono (by omega))).trans (hb5.mono (by omega))
  have hB5 := hB2.trans (hbx.mono (show w.heap.size + 2 ≤ _ by omega))
  have zx : w2.heap.size ≤ w5.heap.size := hbx.size
  clear hu3 hb3 hu4 hb4 hb5 hD zD qa0 qa1 qa2 qa3 qb0 qb1 qb2 qb3 qc0 qc1 qc2 qc3
  replace HM0 := Lib.hid (Rep.below (R := FieldsR) HM0.out hbx (by omega))
  replace HM1 := Lib.hid (Rep.below (R := FieldsR) HM1.out hbx (by omega))
  clear x0 x1 x2 x3
  obtain ⟨x0, x1, x2, x3⟩ := HX.out w5 hB5
  clear hbx
  go_wp2_with fail
  refine (toMsg_any w.heap.size m0 _ w5 hl0 HM0.out (by omega)).mono ?_
  rintro e w6 ⟨u6, rfl, hu6, hb6⟩
  obtain ⟨A6, c6, rfl, -⟩ := Rep.slice_form hu6.rd
  have z6 : w5.heap.size ≤ w6.heap.size := hb6.size
  have hB6 := hB5.trans (hb6.mono (show w.heap.size + 2 ≤ _ by omega))
  replace HM0 := Lib.hid (Rep.below (R := FieldsR) HM0.out hb6 (by omega))
  replace HM1 := Lib.hid (Rep.below (R := FieldsR) HM1.out hb6 (by omega))
  have G0 := Lib.hid hu6
  clear x0 x1 x2 x3
  obtain ⟨x0, x1, x2, x3⟩ := HX.out w6 hB6
  have yy6_0 : w.heap.size < w6.heap.size := by omega
  have yy6_1 : w.heap.size + 1 < w6.heap.size := by omega
  go_wp2_with fail
  have hb7 := (Below.refl w6.heap.size w6).alloc (Nat.le_refl _) (.cells #[.string m0.1, .slice A6 m0.2.length c6] 30)
  have hX0 := heap_alloc_new w6 (.cells #[.string m0.1, .slice A6 m0.2.length c6] 30)
  generalize w6.alloc (.cells #[.string m0.1, .slice A6 m0.2.length c6] 30) = w7 at hb7 hX0 ⊢
  have z7 : w6.heap.size ≤ w7.heap.size := hb7.size
  have zl7 : w6.heap.size < w7.heap.size := lt_of_block hX0
  have hB7 := hB6.trans (hb7.mono (show w.heap.size + 2 ≤ _ by omega))
  replace HM0 := Lib.hid (Rep.below (R := FieldsR) HM0.out hb7 (by omega))
  replace HM1 := Lib.hid (Rep.below (R := FieldsR) HM1.out hb7 (by omega))
  replace G0 := Lib.hid (G0.out.below hb7 (by omega))
  have X0 := Lib.hid hX0
  clear hX0
  clear x0 x1 x2 x3
  obtain ⟨x0, x1, x2, x3⟩ := HX.out w7 hB7
  have X0c0 := cell_of_row _ _ 0 _ _ (0, 0) X0.out
  have X0c1 := cell_of_row _ _ 1 _ _ (0, 0) X0.out
  simp only [List.getElem?_toArray, List.getElem?_cons_zero, List.getElem?_cons_succ] at X0c0 X0c1
  go_wp2_with fail
  refine (toMsg_any w.heap.size m1 _ w7 hl1 HM1.out (by omega)).mono ?_
  rintro e w8 ⟨u8, rfl, hu8, hb8⟩
  obtain ⟨A8, c8, rfl, -⟩ := Rep.slice_form hu8.rd
  have z8 : w7.heap.size ≤ w8.heap.size := hb8.size
  have hB8 := hB7.trans (hb8.mono (show w.heap.size + 2 ≤ _ by omega))
  replace HM0 := Lib.hid (Rep.below (R := FieldsR) HM0.out hb8 (by omega))
  replace HM1 := Lib.hid (Rep.below (R := FieldsR) HM1.out hb8 (by omega))
  replace G0 := Lib.hid (G0.out.below hb8 (by omega))
  replace X0 := Lib.hid ((hb8.block _ (by omega)).trans X0.out)
  have G1 := Lib.hid hu8
  clear x0 x1 x2 x3
  obtain ⟨x0, x1, x2, x3⟩ := HX.out w8 hB8
  clear X0c0 X0c1
  have X0c0 := cell_of_row _ _ 0 _ _ (0, 0) X0.out
  have X0c1 := cell_of_row _ _ 1 _ _ (0, 0) X0.out
  simp only [List.getElem?_toArray, List.getElem?_cons_zero, List.getElem?_cons_succ] at X0c0 X0c1
  have yy8_0 : w.heap.size < w8.heap.size := by omega
  have yy8_1 : w.heap.size + 1 < w8.heap.size := by omega
  have yy8X0 : w6.heap.size < w8.heap.size := by omega
  go_wp2_with fail
  have hb9 := (Below.refl w8.heap.size w8).alloc (Nat.le_refl _) (.cells #[.string m1.1, .slice A8 m1.2.length c8] 30)
  have hX1 := heap_alloc_new w8 (.cells #[.string m1.1, .slice A8 m1.2.length c8] 30)
  generalize w8.alloc (.cells #[.string m1.1, .slice A8 m1.2.length c8] 30) = w9 at hb9 hX1 ⊢
  have z9 : w8.heap.size ≤ w9.heap.size := hb9.size
  have zl9 : w8.heap.size < w9.heap.size := lt_of_block hX1
  have hB9 := hB8.trans (hb9.mono (show w.heap.size + 2 ≤ _ by omega))
  replace HM0 := Lib.hid (Rep.below (R := FieldsR) HM0.out hb9 (by omega))
  replace HM1 := Lib.hid (Rep.below (R := FieldsR) HM1.out hb9 (by omega))
  replace G0 := Lib.hid (G0.out.below hb9 (by omega))
  replace X0 := Lib.hid ((hb9.block _ (by omega)).trans X0.out)
  replace G1 := Lib.hid (G1.out.below hb9 (by omega))
  have X1 := Lib.hid hX1
  clear hX1
  clear x0 x1 x2 x3
  obtain ⟨x0, x1, x2, x3⟩ := HX.out w9 hB9
  have X1c0 := cell_of_row _ _ 0 _ _ (0, 0) X1.out
  have X1c1 := cell_of_row _ _ 1 _ _ (0, 0) X1.out
  simp only [List.getElem?_toArray, List.getElem?_cons_zero, List.getElem?_cons_succ] at X1c0 X1c1
  go_wp2_with fail
  refine (implMsgSame_any _ _ _ _ m0 m1 w9 hl0 hl1 G0.out.rd G1.out.rd (by omega) (by omega)).mono ?_
  rintro e w10 ⟨rfl, hb10⟩
  have z10 : w9.heap.size ≤ w10.heap.size := hb10.size
  have hB10 := hB9.trans (hb10.mono (show w.heap.size + 2 ≤ _ by omega))
  replace HM0 := Lib.hid (Rep.below (R := FieldsR) HM0.out hb10 (by omega))
  replace HM1 := Lib.hid (Rep.below (R := FieldsR) HM1.out hb10 (by omega))
  replace G0 := Lib.hid (G0.out.below hb10 (by omega))
  replace X0 := Lib.hid ((hb10.block _ (by omega)).trans X0.out)
  replace G1 := Lib.hid (G1.out.below hb10 (by omega))
  replace X1 := Lib.hid ((hb10.block _ (by omega)).trans X1.out)
  clear x0 x1 x2 x3
  obtain ⟨x0, x1, x2, x3⟩ := HX.out w10 hB10
  clear X0c0 X0c1
  clear X1c0 X1c1
  have X0c0 := cell_of_row _ _ 0 _ _ (0, 0) X0.out
  have X0c1 := cell_of_row _ _ 1 _ _ (0, 0) X0.out
  simp only [List.getElem?_toArray, List.getElem?_cons_zero, List.getElem?_cons_succ] at X0c0 X0c1
  have X1c0 := cell_of_row _ _ 0 _ _ (0, 0) X1.out
  have X1c1 := cell_of_row _ _ 1 _ _ (0, 0) X1.out
  simp only [List.getElem?_toArray, List.getElem?_cons_zero, List.getElem?_cons_succ] at X1c0 X1c1
  generalize decide (m0 = m1) = dd
  go_wp2
  have hD : Below w10.heap.size w10 w10.drew := below_drew w10 _
  have zD : w10.drew.heap.size = w10.heap.size := rfl
  go_region_held3 (fun V => V.cell? ⟨w6.heap.size, 0, none⟩ = some (.string m0.1) ∧ V.cell? ⟨w6.heap.size, 1, none⟩ = some (.slice A6 m0.2.length c6) ∧ V.cell? ⟨w.heap.size, 0, none⟩ = some (.string m0.1) ∧ V.cell? ⟨w.heap.size, 1, none⟩ = some (.slice AM0 m0.2.length cM0)) (go_keep) (first | (go_at_call 8; refine (toMsg_any w.heap.size m0 _ w10.drew hl0 (Rep.below (R := FieldsR) HM0.out hD (by omega)) (show w.heap.size ≤ w10.heap.size by omega)).mono ?_; rintro e w11 ⟨uq, rfl, huq, hbq⟩; have hbq : Below w10.heap.size w10.drew w11 := hbq; have huq : FieldsR.mine w10.heap.size w11.heap.size w11 [uq] m0.2 := huq; have zq : w10.heap.size ≤ w11.heap.size := hbq.size; have qa0 := (hbq.cell (p := ⟨w6.heap.size, 0, none⟩) (show w6.heap.size < _ by omega)).trans X0c0; have qa1 := (hbq.cell (p := ⟨w6.heap.size, 1, none⟩) (show w6.heap.size < _ by omega)).trans X0c1; have qa2 := (hbq.cell (p := ⟨w.heap.size, 0, none⟩) (show w.heap.size < _ by omega)).trans x0; have qa3 := (hbq.cell (p := ⟨w.heap.size, 1, none⟩) (show w.heap.size < _ by omega)).trans x1) | (go_at_call 10; refine (eqMsg_any _ _ _ _ m0 w11 ht0 (by omega) (G0.out.below (hD.trans hbq) (by omega)).rd huq.rd (by omega) (Nat.le_refl _)).mono ?_; rintro e w12 ⟨rfl, hbr⟩; have zr : w11.heap.size ≤ w12.heap.size := hbr.size; have qb0 := (hbr.cell (p := ⟨w6.heap.size, 0, none⟩) (show w6.heap.size < _ by omega)).trans qa0; have qb1 := (hbr.cell (p := ⟨w6.heap.size, 1, none⟩) (show w6.heap.size < _ by omega)).trans qa1; have qb2 := (hbr.cell (p := ⟨w.heap.size, 0, none⟩) (show w.heap.size < _ by omega)).trans qa2; have qb3 := (hbr.cell (p := ⟨w.heap.size, 1, none⟩) (show w.heap.size < _ by omega)).trans qa3))
  have hb12 : Below w10.heap.size w10 w12 := (hD.trans (hbq.mono (show w10.heap.size ≤ _ by omega))).trans (hbr.mono (show w10.heap.size ≤ _ by omega))
  have hB12 := hB10.trans (hb12.mono (show w.heap.size + 2 ≤ _ by omega))
  have z12 : w10.heap.size ≤ w12.heap.size := hb12.size
  clear hbq hbr huq qa0 qa1 qa2 qa3 qb0 qb1 qb2 qb3 hD zD
  replace HM0 := Lib.hid (Rep.below (R := FieldsR) HM0.out hb12 (by omega))
  replace HM1 := Lib.hid (Rep.below (R := FieldsR) HM1.out hb12 (by omega))
  replace G0 := Lib.hid (G0.out.below hb12 (by omega))
  replace X0 := Lib.hid ((hb12.block _ (by omega)).trans X0.out)
  replace G1 := Lib.hid (G1.out.below hb12 (by omega))
  replace X1 := Lib.hid ((hb12.block _ (by omega)).trans X1.out)
  clear x0 x1 x2 x3
  obtain ⟨x0, x1, x2, x3⟩ := HX.out w12 hB12
  clear X0c0 X0c1
  clear X1c0 X1c1
  have X0c0 := cell_of_row _ _ 0 _ _ (0, 0) X0.out
  have X0c1 := cell_of_row _ _ 1 _ _ (0, 0) X0.out
  simp only [List.getElem?_toArray, List.getElem?_cons_zero, List.getElem?_cons_succ] at X0c0 X0c1
  have X1c0 := cell_of_row _ _ 0 _ _ (0, 0) X1.out
  have X1c1 := cell_of_row _ _ 1 _ _ (0, 0) X1.out
  simp only [List.getElem?_toArray, List.getElem?_cons_zero, List.getElem?_cons_succ] at X1c0 X1c1
  go_wp2
  have hD : Below w12.heap.size w12 w12.drew := below_drew w12 _
  have zD : w12.drew.heap.size = w12.heap.size := rfl
  go_region_held3 (fun V => V.cell? ⟨w8.heap.size, 0, none⟩ = some (.string m1.1) ∧ V.cell? ⟨w8.heap.size, 1, none⟩ = some (.slice A8 m1.2.length c8) ∧ V.cell? ⟨w.heap.size + 1, 0, none⟩ = some (.string m1.1) ∧ V.cell? ⟨w.heap.size + 1, 1, none⟩ = some (.slice AM1 m1.2.length cM1)) (go_keep) (first | (go_at_call 8; refine (toMsg_any w.heap.size m1 _ w12.drew hl1 (Rep.below (R := FieldsR) HM1.out hD (by omega)) (show w.heap.size ≤ w12.heap.size by omega)).mono ?_; rintro e w13 ⟨uq, rfl, huq, hbq⟩; have hbq : Below w12.heap.size w12.drew w13 := hbq; have huq : FieldsR.mine w12.heap.size w13.heap.size w13 [uq] m1.2 := huq; have zq : w12.heap.size ≤ w13.heap.size := hbq.size; have qa0 := (hbq.cell (p := ⟨w8.heap.size, 0, none⟩) (show w8.heap.size < _ by omega)).trans X1c0; have qa1 := (hbq.cell (p := ⟨w8.heap.size, 1, none⟩) (show w8.heap.size < _ by omega)).trans X1c1; have qa2 := (hbq.cell (p := ⟨w.heap.size + 1, 0, none⟩) (show w.heap.size + 1 < _ by omega)).trans x2; have qa3 := (hbq.cell (p := ⟨w.heap.size + 1, 1, none⟩) (show w.heap.size + 1 < _ by omega)).trans x3) | (go_at_call 10; refine (eqMsg_any _ _ _ _ m1 w13 ht1 (by omega) (G1.out.below (hD.trans hbq) (by omega)).rd huq.rd (by omega) (Nat.le_refl _)).mono ?_; rintro e w14 ⟨rfl, hbr⟩; have zr : w13.heap.size ≤ w14.heap.size := hbr.size; have qb0 := (hbr.cell (p := ⟨w8.heap.size, 0, none⟩) (show w8.heap.size < _ by omega)).trans qa0; have qb1 := (hbr.cell (p := ⟨w8.heap.size, 1, none⟩) (show w8.heap.size < _ by omega)).trans qa1; have qb2 := (hbr.cell (p := ⟨w.heap.size + 1, 0, none⟩) (show w.heap.size + 1 < _ by omega)).trans qa2; have qb3 := (hbr.cell (p := ⟨w.heap.size + 1, 1, none⟩) (show w.heap.size + 1 < _ by omega)).trans qa3))
  have hb14 : Below w12.heap.size w12 w14 := (hD.trans (hbq.mono (show w12.heap.size ≤ _ by omega))).trans (hbr.mono (show w12.heap.size ≤ _ by omega))
  have hB14 := hB12.trans (hb14.mono (show w.heap.size + 2 ≤ _ by omega))
  have z14 : w12.heap.size ≤ w14.heap.size := hb14.size
  clear hbq hbr huq qa0 qa1 qa2 qa3 qb0 qb1 qb2 qb3 hD zD
  replace HM0 := Lib.hid (Rep.below (R := FieldsR) HM0.out hb14 (by omega))
  replace HM1 := Lib.hid (Rep.below (R := FieldsR) HM1.out hb14 (by omega))
  replace G0 := Lib.hid (G0.out.below hb14 (by omega))
  replace X0 := Lib.hid ((hb14.block _ (by omega)).trans X0.out)
  replace G1 := Lib.hid (G1.out.below hb14 (by omega))
  replace X1 := Lib.hid ((hb14.block _ (by omega)).trans X1.out)
  clear x0 x1 x2 x3
  obtain ⟨x0, x1, x2, x3⟩ := HX.out w14 hB14
  clear X0c0 X0c1
  clear X1c0 X1c1
  have X0c0 := cell_of_row _ _ 0 _ _ (0, 0) X0.out
  have X0c1 := cell_of_row _ _ 1 _ _ (0, 0) X0.out
  simp only [List.getElem?_toArray, List.getElem?_cons_zero, List.getElem?_cons_succ] at X0c0 X0c1
  have X1c0 := cell_of_row _ _ 0 _ _ (0, 0) X1.out
  have X1c1 := cell_of_row _ _ 1 _ _ (0, 0) X1.out
  simp only [List.getElem?_toArray, List.getElem?_cons_zero, List.getElem?_cons_succ] at X1c0 X1c1
  go_wp2
  go_ret
  exact ⟨rfl, (HB0.out.trans (hB14.mono (by omega)))⟩


set_option maxRecDepth 100000 in
theorem laidOut : laidOutB Try.prog = true := by kernel_rfl
set_option maxRecDepth 100000 in
theorem rowed : allRowed Try.prog Try.f5.params.toList = true := by kernel_rfl
set_option maxRecDepth 100000 in
theorem resT : Try.f5.resultTypes = #[4] := by kernel_rfl
set_option maxRecDepth 100000 in
theorem lifted (os : Os) (started : os.Started) (H : Type) (enc : TypeId × Value → H) :
    ReturnsInHanded {} Try.checked os 5 .any (Rows.fnExactMsgSameSpec.pre6 enc Try.prog Try.f5 Rows.fnExactMsgSameRow.domain false) (Rows.fnExactMsgSameSpec.post enc Try.prog Try.f5 false true false false) := by
  refine returnsInHanded_of_change (C := Try.checked) own started (by kernel_rfl) Try.func5
    (ChangeSpec.witness6 (enc := enc) (C := Try.checked) false ⟨#[], #[.agg #[.string ByteArray.empty, .slice none 0 0], .agg #[.string ByteArray.empty, .slice none 0 0]], []⟩ 8 (by kernel_rfl) (by kernel_rfl) (by kernel_rfl) (by kernel_rfl)) ?_
  intro W base args ds gs before hval0 hW hcnd _
  have hval : ∀ (j : Nat) t v, Try.f5.params[j]? = some t → args[j]? = some v → Value.okWide Try.prog W .any base t v := hval0
  have hW' := hW
  obtain ⟨p, q, hA0, hV, rfl, hfz, hnd⟩ := hW
  have hA : DataW.TrodAll enc Try.prog W 0 (fun _ => true) true Try.f5.params.toList args.toList ds p := hA0
  rw [Try.params5] at hA hval
  obtain ⟨v0, vs0, d0, ds0, p0, q0, hargs, rfl, rfl, h0, r0⟩ := trodAll_cons hA
  obtain ⟨v1, vs1, d1, ds1, p1, q1, rfl, rfl, rfl, h1, r1⟩ := trodAll_cons r0
  obtain ⟨rfl, rfl, rfl⟩ := trodAll_nil r1
  obtain rfl : args = #[v0, v1] := by cases args; simp_all
  obtain ⟨rfl, rfl⟩ := trodVars_none hV
  obtain ⟨m0, u0, rfl, w0, z0, n0, y0⟩ := open_msg (hval 0 24 v0 rfl rfl) h0
  obtain ⟨m1, u1, rfl, w1, z1, n1, y1⟩ := open_msg (hval 1 24 v1 rfl rfl) h1
  clear hA0 hval0
  refine (walk W  _ _ _ _ w0 z0 n0 y0 w1 z1 n1 y1).mono fun e W' ⟨he, hg⟩ => ?_
  subst he
  exact ⟨_, rfl, post_true laidOut rowed hW' rfl resT Try.underlying4 hg (pv := []) rfl⟩

set_option maxRecDepth 100000 in
theorem over : Rows.fnExactMsgSameRow.holds Try.pinned (OpenSpec.ofChange Rows.fnExactMsgSameSpec) :=
  OpenClaim.holds_of_wide 5 Try.f5 rfl rfl rfl rfl rfl rfl rfl ⟨rfl, rfl, rfl, rfl, rfl⟩ rfl rfl rfl rfl rfl (by kernel_rfl) Try.func5 (by kernel_rfl)
    (of_decide_eq_true (by kernel_rfl)) (by unfold Func.isWrapper; first | (rw [if_pos (by decide +kernel)]; kernel_rfl) | (rw [if_neg (by decide +kernel)]; exact ⟨rfl, rfl⟩))
    (fun os started H enc _ => lifted os started H enc)

set_option maxRecDepth 100000 in
theorem proved : Rows.FnExactMsgSameSaid :=
  over
#print axioms proved
end Go.Proofs.Ytkkbhlaakhkjnaa.fnExactMsgSame
