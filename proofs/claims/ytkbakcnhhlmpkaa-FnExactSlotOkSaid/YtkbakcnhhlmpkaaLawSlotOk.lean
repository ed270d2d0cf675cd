/- FnExactSlotOk: for every argument the law answers true: the program's function returns what the reference returns; the listed package variables hold what the program's text lays (tied). -/
import Derived.Test.YtkbakcnhhlmpkaaPost
import Derived.Test.YtkbakcnhhlmpkaaOpenSlot
import Derived.Test.YtkbakcnhhlmpkaaSlotS
import Derived.Test.YtkbakcnhhlmpkaaSlotH
import Derived.Deep.RegionHeld3
import Derived.Test.YtkbakcnhhlmpkaaSlotIO
namespace Go.Proofs.Ytkbakcnhhlmpkaa.fnExactSlotOk
open Go.ChangeShapes Go.WideShapes Go.ChangeAt Go.RowKit
open Go.WideMaps Go.WideElems
open Go.ChangeMaps (open_string shut_string)
set_option linter.unusedVariables false

set_option maxRecDepth 100000 in
theorem own : ownKnob Try.prog.godebug = none := by kernel_rfl

set_option maxRecDepth 100000 in
set_option maxHeartbeats 8000000 in
theorem walk (w : World)  (x0 : SlotD) (u0 : Value) (w0 : rd .u8 w.heap.size w u0 x0.2.2) (z0 : x0.1.size ≤ maxLen) (n0 : x0.2.1.size ≤ maxLen) (y0 : x0.2.2.length ≤ maxLen ∧ isBytes x0.2.2) :
    Calls Try.prog 3 #[.agg #[.string x0.1, .string x0.2.1, u0]] w fun e w' => e = .returned (.bool true) ∧ Below w.heap.size w w' := by
  obtain ⟨AX0, cX0, rfl, -⟩ := w0.form
  have HX0 := Lib.hid w0
  have HZ0 := Lib.hid (And.intro z0 n0)
  have HY0 := Lib.hid y0
  clear w0 z0 n0 y0
  have HB0 : Hid (Below w.heap.size w (w.alloc (.cells #[.string x0.1, .string x0.2.1, .slice AX0 x0.2.2.length cX0] 24))) := Lib.hid ((Below.refl w.heap.size w).alloc (Nat.le_refl _) (.cells #[.string x0.1, .string x0.2.1, .slice AX0 x0.2.2.length cX0] 24))
  have HX : Hid (∀ wr, Below (w.heap.size + 1) (w.alloc (.cells #[.string x0.1, .string x0.2.1, .slice AX0 x0.2.2.length cX0] 24)) wr → wr.cell? ⟨w.heap.size, 0, none⟩ = some (.string x0.1) ∧ wr.cell? ⟨w.heap.size, 1, none⟩ = some (.string x0.2.1) ∧ wr.cell? ⟨w.heap.size, 2, none⟩ = some (.slice AX0 x0.2.2.length cX0)) := Lib.hid fun wr hw => ⟨(hw.cell (p := ⟨w.heap.size, 0, none⟩) (show w.heap.size < _ by omega)).trans (by simp), (hw.cell (p := ⟨w.heap.size, 1, none⟩) (show w.heap.size < _ by omega)).trans (by simp), (hw.cell (p := ⟨w.heap.size, 2, none⟩) (show w.heap.size < _ by omega)).trans (by simp)⟩
  go_enter Try.func3, Try.ntmps3
  go_wp2_with fail
  refine (szSlot_any _ x0 1048576 (w.alloc (.cells #[.string x0.1, .string x0.2.1, .slice AX0 x0.2.2.length cX0] 24)) (HX0.out.below HB0.out (Nat.le_refl _)) HZ0.out.1 HZ0.out.2 HY0.out.1 (by omega) (by omega)).mono ?_
  rintro e w101 ⟨r0, rfl, hr0, hb1⟩
  have zz101 : w.heap.size + 1 ≤ w101.heap.size := by have := hb1.size; simp at this; omega
  have hB1 : Below (w.heap.size + 1) (w.alloc (.cells #[.string x0.1, .string x0.2.1, .slice AX0 x0.2.2.length cX0] 24)) w101 := hb1.mono (by simp <;> omega)
  have hw1 : Below w.heap.size w w101 := HB0.out.trans (hb1.mono (by simp <;> omega))
  replace HX0 := Lib.hid (HX0.out.below hw1 (Nat.le_refl _))
  obtain ⟨x_0, x_1, x_2⟩ := HX.out w101 hB1
  rcases hr0 with rfl | ⟨hr0, hp0⟩
  · go_wp2
    go_ret
    exact ⟨rfl, (HB0.out.trans (hB1.mono (by first | omega | (simp <;> omega))))⟩
  have hxz0 : slotSz x0 ≤ 1048576 := by unfold slotSz; omega
  have hx0 : x0.2.2.length ≤ 1048576 := by unfold slotSz at hxz0; omega
  have hq0 : r0 ≤ 1048576 := by omega
  have HR0 := Lib.hid hr0
  have HXZ0 := Lib.hid hxz0
  clear hr0 hxz0
  go_wp2_with fail
  refine (toSlot_any w.heap.size _ x0 w101 hx0 HX0.out (by omega)).mono ?_
  rintro e w102 ⟨u_2, rfl, hu2, hb2⟩
  obtain ⟨A_2, c_2, rfl, -⟩ := hu2.form
  have zz102 : w101.heap.size ≤ w102.heap.size := hb2.size
  have hB2 := hB1.trans (hb2.mono (show w.heap.size + 1 ≤ _ by omega))
  replace HX0 := Lib.hid (HX0.out.below hb2 (by omega))
  clear x_0 x_1 x_2
  obtain ⟨x_0, x_1, x_2⟩ := HX.out w102 hB2
  have H2 := Lib.hid hu2
  go_wp2_with fail
  refine (specSlotOk_any _ _ x0 w102 HZ0.out.1 HZ0.out.2 H2.out.rd).mono ?_
  rintro e w103 ⟨rfl, hb3⟩
  have zz103 : w102.heap.size ≤ w103.heap.size := hb3.size
  have hB3 := hB2.trans (hb3.mono (show w.heap.size + 1 ≤ _ by omega))
  replace HX0 := Lib.hid (HX0.out.below hb3 (by omega))
  replace H2 := Lib.hid (H2.out.below hb3 (by omega))
  clear x_0 x_1 x_2
  obtain ⟨x_0, x_1, x_2⟩ := HX.out w103 hB3
  clear H2
  go_wp2_with fail
  refine (toSlot_any w.heap.size _ x0 w103 hx0 HX0.out (by omega)).mono ?_
  rintro e w104 ⟨u_4, rfl, hu4, hb4⟩
  obtain ⟨A_4, c_4, rfl, -⟩ := hu4.form
  have zz104 : w103.heap.size ≤ w104.heap.size := hb4.size
  have hB4 := hB3.trans (hb4.mono (show w.heap.size + 1 ≤ _ by omega))
  replace HX0 := Lib.hid (HX0.out.below hb4 (by omega))
  clear x_0 x_1 x_2
  obtain ⟨x_0, x_1, x_2⟩ := HX.out w104 hB4
  have H4 := Lib.hid hu4
  have yy4_0 : w.heap.size < w104.heap.size := by omega
  go_wp2_with fail
  have hb5 := (Below.refl w104.heap.size w104).alloc (Nat.le_refl _) (.cells #[.string x0.1, .string x0.2.1, .slice A_4 x0.2.2.length c_4] 27)
  have hX4 := heap_alloc_new w104 (.cells #[.string x0.1, .string x0.2.1, .slice A_4 x0.2.2.length c_4] 27)
  generalize w104.alloc (.cells #[.string x0.1, .string x0.2.1, .slice A_4 x0.2.2.length c_4] 27) = w105 at hb5 hX4 ⊢
  have zz105 : w104.heap.size ≤ w105.heap.size := hb5.size
  have zl5 : w104.heap.size < w105.heap.size := lt_of_block hX4
  have hB5 := hB4.trans (hb5.mono (show w.heap.size + 1 ≤ _ by omega))
  replace HX0 := Lib.hid (HX0.out.below hb5 (by omega))
  replace H4 := Lib.hid (H4.out.below hb5 (by omega))
  have X4 := Lib.hid hX4
  clear hX4
  clear x_0 x_1 x_2
  obtain ⟨x_0, x_1, x_2⟩ := HX.out w105 hB5
  have X4c0 := cell_of_row _ _ 0 _ _ (0, 0) X4.out
  have X4c1 := cell_of_row _ _ 1 _ _ (0, 0) X4.out
  have X4c2 := cell_of_row _ _ 2 _ _ (0, 0) X4.out
  simp only [List.getElem?_toArray, List.getElem?_cons_zero, List.getElem?_cons_succ] at X4c0 X4c1 X4c2
  go_wp2_with fail
  refine (implSlotOk_any _ _ x0 w105 HZ0.out.1 HZ0.out.2 H4.out.rd).mono ?_
  rintro e w106 ⟨rfl, hb6⟩
  have zz106 : w105.heap.size ≤ w106.heap.size := hb6.size
  have hB6 := hB5.trans (hb6.mono (show w.heap.size + 1 ≤ _ by omega))
  replace HX0 := Lib.hid (HX0.out.below hb6 (by omega))
  replace H4 := Lib.hid (H4.out.below hb6 (by omega))
  replace X4 := Lib.hid ((hb6.block _ (by omega)).trans X4.out)
  clear x_0 x_1 x_2
  obtain ⟨x_0, x_1, x_2⟩ := HX.out w106 hB6
  clear X4c0 X4c1 X4c2
  have X4c0 := cell_of_row _ _ 0 _ _ (0, 0) X4.out
  have X4c1 := cell_of_row _ _ 1 _ _ (0, 0) X4.out
  have X4c2 := cell_of_row _ _ 2 _ _ (0, 0) X4.out
  simp only [List.getElem?_toArray, List.getElem?_cons_zero, List.getElem?_cons_succ] at X4c0 X4c1 X4c2
  generalize slotOk x0 = res
  go_wp2
  have hD : Below w106.heap.size w106 w106.drew := (Below.refl _ _).drew
  have zD : w106.drew.heap.size = w106.heap.size := rfl
  go_region_held3 (fun V => V.cell? ⟨w104.heap.size, 0, none⟩ = some (.string x0.1) ∧ V.cell? ⟨w104.heap.size, 1, none⟩ = some (.string x0.2.1) ∧ V.cell? ⟨w104.heap.size, 2, none⟩ = some (.slice A_4 x0.2.2.length c_4) ∧ V.cell? ⟨w.heap.size, 0, none⟩ = some (.string x0.1) ∧ V.cell? ⟨w.heap.size, 1, none⟩ = some (.string x0.2.1) ∧ V.cell? ⟨w.heap.size, 2, none⟩ = some (.slice AX0 x0.2.2.length cX0)) (go_keep) (first | (go_at_call 10; refine (toSlot_any w.heap.size _ x0 w106.drew hx0 (HX0.out.below hD (by omega)) (show w.heap.size ≤ w106.heap.size by omega)).mono ?_; rintro e w107 ⟨uq, rfl, huq, hbq⟩; obtain ⟨Aq, cq, rfl, -⟩ := huq.form; have zq := hbq.size; have qa0 := (hbq.cell (p := ⟨w104.heap.size, 0, none⟩) (show w104.heap.size < _ by omega)).trans X4c0; have qa1 := (hbq.cell (p := ⟨w104.heap.size, 1, none⟩) (show w104.heap.size < _ by omega)).trans X4c1; have qa2 := (hbq.cell (p := ⟨w104.heap.size, 2, none⟩) (show w104.heap.size < _ by omega)).trans X4c2; have qa3 := (hbq.cell (p := ⟨w.heap.size, 0, none⟩) (show w.heap.size < _ by omega)).trans x_0; have qa4 := (hbq.cell (p := ⟨w.heap.size, 1, none⟩) (show w.heap.size < _ by omega)).trans x_1; have qa5 := (hbq.cell (p := ⟨w.heap.size, 2, none⟩) (show w.heap.size < _ by omega)).trans x_2) | (go_at_call 12; refine (eqSlot_any _ _ _ _ x0 w107 (by omega) ((H4.out.rd.below hD (by omega)).below hbq (by omega)) huq.rd (by omega) (by omega)).mono ?_; rintro e w108 ⟨rfl, hbr⟩; have qb0 := (hbr.cell (p := ⟨w104.heap.size, 0, none⟩) (show w104.heap.size < _ by omega)).trans qa0; have qb1 := (hbr.cell (p := ⟨w104.heap.size, 1, none⟩) (show w104.heap.size < _ by omega)).trans qa1; have qb2 := (hbr.cell (p := ⟨w104.heap.size, 2, none⟩) (show w104.heap.size < _ by omega)).trans qa2; have qb3 := (hbr.cell (p := ⟨w.heap.size, 0, none⟩) (show w.heap.size < _ by omega)).trans qa3; have qb4 := (hbr.cell (p := ⟨w.heap.size, 1, none⟩) (show w.heap.size < _ by omega)).trans qa4; have qb5 := (hbr.cell (p := ⟨w.heap.size, 2, none⟩) (show w.heap.size < _ by omega)).trans qa5) | fail)
  have hb8 : Below w106.heap.size w106 w108 := (hD.trans (hbq.mono (show w106.heap.size ≤ _ by omega))).trans (hbr.mono (show w106.heap.size ≤ _ by omega))
  have hB8 := hB6.trans (hb8.mono (show w.heap.size + 1 ≤ _ by omega))
  have zz108 : w106.heap.size ≤ w108.heap.size := hb8.size
  clear hbq hbr huq qa0 qb0 qa1 qb1 qa2 qb2 qa3 qb3 qa4 qb4 qa5 qb5 hD zD
  replace HX0 := Lib.hid (HX0.out.below hb8 (by omega))
  replace H4 := Lib.hid (H4.out.below hb8 (by omega))
  replace X4 := Lib.hid ((hb8.block _ (by omega)).trans X4.out)
  clear x_0 x_1 x_2
  obtain ⟨x_0, x_1, x_2⟩ := HX.out w108 hB8
  clear X4c0 X4c1 X4c2
  have X4c0 := cell_of_row _ _ 0 _ _ (0, 0) X4.out
  have X4c1 := cell_of_row _ _ 1 _ _ (0, 0) X4.out
  have X4c2 := cell_of_row _ _ 2 _ _ (0, 0) X4.out
  simp only [List.getElem?_toArray, List.getElem?_cons_zero, List.getElem?_cons_succ] at X4c0 X4c1 X4c2
  go_wp2
  go_ret
  exact ⟨rfl, (HB0.out.trans (hB8.mono (by first | omega | (simp <;> omega))))⟩


set_option maxRecDepth 100000 in
theorem laidOut : laidOutB Try.prog = true := by kernel_rfl
set_option maxRecDepth 100000 in
theorem rowed : allRowed Try.prog Try.f3.params.toList = true := by kernel_rfl
set_option maxRecDepth 100000 in
theorem resT : Try.f3.resultTypes = #[4] := by kernel_rfl
set_option maxRecDepth 100000 in
theorem lifted (os : Os) (started : os.Started) (H : Type) (enc : TypeId × Value → H) :
    ReturnsInHanded {} Try.checked os 3 .any (Rows.fnExactSlotOkSpec.pre6 enc Try.prog Try.f3 Rows.fnExactSlotOkRow.domain false) (Rows.fnExactSlotOkSpec.post enc Try.prog Try.f3 false true false false) := by
  refine returnsInHanded_of_change (C := Try.checked) own started (by kernel_rfl) Try.func3
    (ChangeSpec.witness6 (enc := enc) (C := Try.checked) false ⟨#[], #[.agg #[.string ByteArray.empty, .string ByteArray.empty, .slice none 0 0]], []⟩ 8 (by kernel_rfl) (by kernel_rfl) (by kernel_rfl) (by kernel_rfl)) ?_
  intro W base args ds gs before hval0 hW hcnd _
  have hval : ∀ (j : Nat) t v, Try.f3.params[j]? = some t → args[j]? = some v → Value.okWide Try.prog W .any base t v := hval0
  have hW' := hW
  obtain ⟨p, q, hA0, hV, rfl, hfz, hnd⟩ := hW
  have hA : DataW.TrodAll enc Try.prog W 0 (fun _ => true) true Try.f3.params.toList args.toList ds p := hA0
  rw [Try.params3] at hA hval
  obtain ⟨v0, vs0, d0, ds0, p0, q0, hargs, rfl, rfl, h0, r0⟩ := trodAll_cons hA
  obtain ⟨rfl, rfl, rfl⟩ := trodAll_nil r0
  obtain rfl : args = #[v0] := by cases args; simp_all
  obtain ⟨rfl, rfl⟩ := trodVars_none hV
  obtain ⟨x0, u0, rfl, w0, z0, n0, y0a, y0b⟩ := open_slot (hval 0 24 v0 rfl rfl) h0
  clear hA0 hval0
  refine (walk W  _ _ w0 z0 n0 ⟨y0a, y0b⟩).mono fun e W' ⟨he, hg⟩ => ?_
  subst he
  exact ⟨_, rfl, post_true laidOut rowed hW' rfl resT Try.underlying4 hg (pv := []) rfl⟩

set_option maxRecDepth 100000 in
theorem over : Rows.fnExactSlotOkRow.holds Try.pinned (OpenSpec.ofChange Rows.fnExactSlotOkSpec) :=
  OpenClaim.holds_of_wide 3 Try.f3 rfl rfl rfl rfl rfl rfl rfl ⟨rfl, rfl, rfl, rfl, rfl⟩ rfl rfl rfl rfl rfl (by kernel_rfl) Try.func3 (by kernel_rfl)
    (of_decide_eq_true (by kernel_rfl)) (by unfold Func.isWrapper; first | (rw [if_pos (by decide +kernel)]; kernel_rfl) | (rw [if_neg (by decide +kernel)]; exact ⟨rfl, rfl⟩))
    (fun os started H enc _ => lifted os started H enc)

set_option maxRecDepth 100000 in
theorem proved : Rows.FnExactSlotOkSaid :=
  over
#print axioms proved
end Go.Proofs.Ytkbakcnhhlmpkaa.fnExactSlotOk
