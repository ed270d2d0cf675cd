/- FnExactFieldOf: for every argument the law answers true: the program's function returns what the reference returns; the listed package variables hold what the program's text lays (tied). -/
import Derived.Test.YtkkbhlaakhkjnaaPost
import Derived.Test.YtkkbhlaakhkjnaaOpenMsg
import Derived.Test.YtkkbhlaakhkjnaaMsgI
namespace Go.Proofs.Ytkkbhlaakhkjnaa.fnExactFieldOf
open Go.ChangeShapes Go.WideShapes Go.ChangeAt Go.RowKit
open Go.WideMaps Go.WideElems
open Go.ChangeMaps (open_string shut_string)
set_option linter.unusedVariables false

set_option maxRecDepth 100000 in
theorem own : ownKnob Try.prog.godebug = none := by kernel_rfl

set_option maxRecDepth 100000 in
theorem walk (w : World)  (m0 : MsgD) (u0 : Value) (a1 : Int) (w0 : FieldsR.rd w.heap.size w [u0] m0.2) (z0 : m0.1.size ≤ maxLen) (n0 : m0.2.length ≤ maxLen) (y0 : ∀ x ∈ m0.2, (Lit.int .i64 x.1).wf = true ∧ x.2.size ≤ maxLen) (w1 : (Lit.int .i64 a1).wf = true) :
    Calls Try.prog 3 #[.agg #[.string m0.1, u0], .int .i64 a1] w fun e w' => e = .returned (.bool true) ∧ Below w.heap.size w w' := by
  obtain ⟨A0, c0, rfl, -⟩ := Rep.slice_form w0
  have H := Lib.hid w0
  have HN := Lib.hid n0
  have HY : Hid (∀ x ∈ m0.2, x.2.size ≤ maxLen) := Lib.hid (fun x hx => (y0 x hx).2)
  have HI : Hid (∀ x ∈ m0.2, (Lit.int .i64 x.1).wf = true) := Lib.hid (fun x hx => (y0 x hx).1)
  have HB0 : Hid (Below w.heap.size w (w.alloc (.cells #[.string m0.1, .slice A0 m0.2.length c0] 24))) := Lib.hid ((Below.refl _ _).alloc (Nat.le_refl _) _)
  have HX : Hid (∀ wr, Below (w.heap.size + 1) (w.alloc (.cells #[.string m0.1, .slice A0 m0.2.length c0] 24)) wr → wr.cell? ⟨w.heap.size, 0, none⟩ = some (.string m0.1) ∧ wr.cell? ⟨w.heap.size, 1, none⟩ = some (.slice A0 m0.2.length c0)) := Lib.hid fun wr hw => ⟨(hw.cell (p := ⟨_, 0, none⟩) (Nat.lt_succ_self _)).trans (by simp), (hw.cell (p := ⟨_, 1, none⟩) (Nat.lt_succ_self _)).trans (by simp)⟩
  clear w0 y0
  go_enter Try.func3, Try.ntmps3
  go_wp2_with fail
  refine (szMsg_any w.heap.size _ m0 1048576 _ HN.out z0 HY.out (Rep.below (R := FieldsR) H.out HB0.out (Nat.le_refl _)) (by simp) (by decide) (by decide)).mono ?_
  rintro e w1 ⟨r, rfl, hr, hb1⟩
  have z1 : w.heap.size + 1 ≤ w1.heap.size := by have := hb1.size; simpa using this
  have hB1 : Below (w.heap.size + 1) (w.alloc (.cells #[.string m0.1, .slice A0 m0.2.length c0] 24)) w1 := hb1.mono (by simp)
  rcases hr with rfl | ⟨hr, hr0⟩
  · go_wp2
    go_ret
    exact ⟨rfl, HB0.out.trans (hB1.mono (Nat.le_succ _))⟩
  have hsz : msgSz m0 ≤ 1048576 := by omega
  have hl : m0.2.length ≤ 1048576 := by unfold msgSz fieldsSz at hsz; omega
  have ht : m0.1.size ≤ 1048576 := by unfold msgSz at hsz; omega
  have hs : ∀ x ∈ m0.2, x.2.size ≤ 1048576 := fun x hx => by have := le_sum (fun y : FieldD => y.2.size) hx; unfold msgSz fieldsSz at hsz; omega
  have HS := Lib.hid hs
  have HR0 := Lib.hid hr
  replace H := Lib.hid (Rep.below (R := FieldsR) H.out (HB0.out.trans (hB1.mono (Nat.le_succ _))) (Nat.le_refl _))
  obtain ⟨x0, x1⟩ := HX.out w1 hB1
  clear hr hsz hb1 hs
  go_wp2_with fail
  refine (toMsg_any w.heap.size m0 _ w1 hl H.out (by omega)).mono ?_
  rintro e w2 ⟨u2, rfl, hu2, hb2⟩
  obtain ⟨A2, c2, rfl, -⟩ := Rep.slice_form hu2.rd
  have z2 : w1.heap.size ≤ w2.heap.size := hb2.size
  have hB2 := hB1.trans (hb2.mono (show w.heap.size + 1 ≤ _ by omega))
  replace H := Lib.hid (Rep.below (R := FieldsR) H.out hb2 (by omega))
  have H2 := Lib.hid hu2
  clear x0 x1
  obtain ⟨x0, x1⟩ := HX.out w2 hB2
  go_wp2_with fail
  refine (specFieldOf_any _ _ m0 a1 w2 hl H2.out.rd (by omega)).mono ?_
  rintro e w3 ⟨rfl, hb3⟩
  have z3 : w2.heap.size ≤ w3.heap.size := hb3.size
  have hB3 := hB2.trans (hb3.mono (show w.heap.size + 1 ≤ _ by omega))
  replace H := Lib.hid (Rep.below (R := FieldsR) H.out hb3 (by omega))
  replace H2 := Lib.hid (H2.out.below hb3 (by omega))
  clear x0 x1
  obtain ⟨x0, x1⟩ := HX.out w3 hB3
  clear H2
  go_wp2_with fail
  refine (toMsg_any w.heap.size m0 _ w3 hl H.out (by omega)).mono ?_
  rintro e w4 ⟨u4, rfl, hu4, hb4⟩
  obtain ⟨A4, c4, rfl, -⟩ := Rep.slice_form hu4.rd
  have z4 : w3.heap.size ≤ w4.heap.size := hb4.size
  have hB4 := hB3.trans (hb4.mono (show w.heap.size + 1 ≤ _ by omega))
  replace H := Lib.hid (Rep.below (R := FieldsR) H.out hb4 (by omega))
  have H4 := Lib.hid hu4
  clear x0 x1
  obtain ⟨x0, x1⟩ := HX.out w4 hB4
  go_wp2_with fail
  have hb5 := (Below.refl w4.heap.size w4).alloc (Nat.le_refl _) (.cells #[.string m0.1, .slice A4 m0.2.length c4] 30)
  have hX4 := heap_alloc_new w4 (.cells #[.string m0.1, .slice A4 m0.2.length c4] 30)
  generalize w4.alloc (.cells #[.string m0.1, .slice A4 m0.2.length c4] 30) = w5 at hb5 hX4 ⊢
  have z5 : w4.heap.size ≤ w5.heap.size := hb5.size
  have zl5 : w4.heap.size < w5.heap.size := lt_of_block hX4
  have hB5 := hB4.trans (hb5.mono (show w.heap.size + 1 ≤ _ by omega))
  replace H := Lib.hid (Rep.below (R := FieldsR) H.out hb5 (by omega))
  replace H4 := Lib.hid (H4.out.below hb5 (by omega))
  have X4 := Lib.hid hX4
  clear hX4 x0 x1
  obtain ⟨x0, x1⟩ := HX.out w5 hB5
  have X4c0 := cell_of_row _ _ 0 _ _ (0, 0) X4.out
  have X4c1 := cell_of_row _ _ 1 _ _ (0, 0) X4.out
  simp only [List.getElem?_toArray, List.getElem?_cons_zero, List.getElem?_cons_succ] at X4c0 X4c1
  go_wp2_with fail
  refine (implFieldOf_any _ _ m0 a1 w5 hl H4.out.rd (by omega)).mono ?_
  rintro e w6 ⟨rfl, hb6⟩
  have z6 : w5.heap.size ≤ w6.heap.size := hb6.size
  have hB6 := hB5.trans (hb6.mono (show w.heap.size + 1 ≤ _ by omega))
  replace H := Lib.hid (Rep.below (R := FieldsR) H.out hb6 (by omega))
  replace H4 := Lib.hid (H4.out.below hb6 (by omega))
  replace X4 := Lib.hid ((hb6.block _ (by omega)).trans X4.out)
  clear x0 x1
  obtain ⟨x0, x1⟩ := HX.out w6 hB6
  clear X4c0 X4c1
  have X4c0 := cell_of_row _ _ 0 _ _ (0, 0) X4.out
  have X4c1 := cell_of_row _ _ 1 _ _ (0, 0) X4.out
  simp only [List.getElem?_toArray, List.getElem?_cons_zero, List.getElem?_cons_succ] at X4c0 X4c1
  generalize fldTxt m0.2 a1 = ft
  generalize fldHas m0.2 a1 = fh
  go_wp2
  have hD : Below w6.heap.size w6 w6.drew := below_drew w6 _
  have zD : w6.drew.heap.size = w6.heap.size := rfl
  go_region_held3 (fun V => V.cell? ⟨w4.heap.size, 0, none⟩ = some (.string m0.1) ∧ V.cell? ⟨w4.heap.size, 1, none⟩ = some (.slice A4 m0.2.length c4) ∧ V.cell? ⟨w.heap.size, 0, none⟩ = some (.string m0.1) ∧ V.cell? ⟨w.heap.size, 1, none⟩ = some (.slice A0 m0.2.length c0)) (go_keep) (first | (go_at_call 8; refine (toMsg_any w.heap.size m0 _ w6.drew hl (Rep.below (R := FieldsR) H.out hD (by omega)) (show w.heap.size ≤ w6.heap.size by omega)).mono ?_; rintro e w7 ⟨uq, rfl, huq, hbq⟩; have hbq : Below w6.heap.size w6.drew w7 := hbq; have huq : FieldsR.mine w6.heap.size w7.heap.size w7 [uq] m0.2 := huq; have zq : w6.heap.size ≤ w7.heap.size := hbq.size; have qa0 := (hbq.cell (p := ⟨w4.heap.size, 0, none⟩) (show w4.heap.size < _ by omega)).trans X4c0; have qa1 := (hbq.cell (p := ⟨w4.heap.size, 1, none⟩) (show w4.heap.size < _ by omega)).trans X4c1; have qa2 := (hbq.cell (p := ⟨w.heap.size, 0, none⟩) (show w.heap.size < _ by omega)).trans x0; have qa3 := (hbq.cell (p := ⟨w.heap.size, 1, none⟩) (show w.heap.size < _ by omega)).trans x1) | (go_at_call 10; refine (eqMsg_any _ _ _ _ m0 w7 ht (by omega) (H4.out.below (hD.trans hbq) (by omega)).rd huq.rd (by omega) (Nat.le_refl _)).mono ?_; rintro e w8 ⟨rfl, hbr⟩; have zr : w7.heap.size ≤ w8.heap.size := hbr.size; have qb0 := (hbr.cell (p := ⟨w4.heap.size, 0, none⟩) (show w4.heap.size < _ by omega)).trans qa0; have qb1 := (hbr.cell (p := ⟨w4.heap.size, 1, none⟩) (show w4.heap.size < _ by omega)).trans qa1; have qb2 := (hbr.cell (p := ⟨w.heap.size, 0, none⟩) (show w.heap.size < _ by omega)).trans qa2; have qb3 := (hbr.cell (p := ⟨w.heap.size, 1, none⟩) (show w.heap.size < _ by omega)).trans qa3))
  have hB8 := ((hB6.trans (hD.mono (show w.heap.size + 1 ≤ _ by omega))).trans (hbq.mono (show w.heap.size + 1 ≤ _ by omega))).trans (hbr.mono (show w.heap.size + 1 ≤ _ by omega))
  go_wp2
  go_ret
  exact ⟨rfl, HB0.out.trans (hB8.mono (Nat.le_succ _))⟩


set_option maxRecDepth 100000 in
theorem laidOut : laidOutB Try.prog = true := by kernel_rfl
set_option maxRecDepth 100000 in
theorem rowed : allRowed Try.prog Try.f3.params.toList = true := by kernel_rfl
set_option maxRecDepth 100000 in
theorem resT : Try.f3.resultTypes = #[4] := by kernel_rfl
set_option maxRecDepth 100000 in
theorem lifted (os : Os) (started : os.Started) (H : Type) (enc : TypeId × Value → H) :
    ReturnsInHanded {} Try.checked os 3 .any (Rows.fnExactFieldOfSpec.pre6 enc Try.prog Try.f3 Rows.fnExactFieldOfRow.domain false) (Rows.fnExactFieldOfSpec.post enc Try.prog Try.f3 false true false false) := by
  refine returnsInHanded_of_change (C := Try.checked) own started (by kernel_rfl) Try.func3
    (ChangeSpec.witness6 (enc := enc) (C := Try.checked) false ⟨#[], #[.agg #[.string ByteArray.empty, .slice none 0 0], .int .i64 0], []⟩ 8 (by kernel_rfl) (by kernel_rfl) (by kernel_rfl) (by kernel_rfl)) ?_
  intro W base args ds gs before hval0 hW hcnd _
  have hval : ∀ (j : Nat) t v, Try.f3.params[j]? = some t → args[j]? = some v → Value.okWide Try.prog W .any base t v := hval0
  have hW' := hW
  obtain ⟨p, q, hA0, hV, rfl, hfz, hnd⟩ := hW
  have hA : DataW.TrodAll enc Try.prog W 0 (fun _ => true) true Try.f3.params.toList args.toList ds p := hA0
  rw [Try.params3] at hA hval
  obtain ⟨v0, vs0, d0, ds0, p0, q0, hargs, rfl, rfl, h0, r0⟩ := trodAll_cons hA
  obtain ⟨v1, vs1, d1, ds1, p1, q1, rfl, rfl, rfl, h1, r1⟩ := trodAll_cons r0
  obtain ⟨rfl, rfl, rfl⟩ := trodAll_nil r1
  obtain rfl : args = #[v0, v1] := by cases args; simp_all
  obtain ⟨rfl, rfl⟩ := trodVars_none hV
  obtain ⟨m0, u0, rfl, w0, z0, n0, y0⟩ := open_msg (hval 0 24 v0 rfl rfl) h0
  obtain ⟨a1, rfl, rfl, rfl, w1⟩ := open_int Try.underlying3 (hval 1 3 v1 rfl rfl) h1
  clear hA0 hval0
  refine (walk W  _ _ _ w0 z0 n0 y0 w1).mono fun e W' ⟨he, hg⟩ => ?_
  subst he
  exact ⟨_, rfl, post_true laidOut rowed hW' rfl resT Try.underlying4 hg (pv := []) rfl⟩

set_option maxRecDepth 100000 in
theorem over : Rows.fnExactFieldOfRow.holds Try.pinned (OpenSpec.ofChange Rows.fnExactFieldOfSpec) :=
  OpenClaim.holds_of_wide 3 Try.f3 rfl rfl rfl rfl rfl rfl rfl ⟨rfl, rfl, rfl, rfl, rfl⟩ rfl rfl rfl rfl rfl (by kernel_rfl) Try.func3 (by kernel_rfl)
    (of_decide_eq_true (by kernel_rfl)) (by unfold Func.isWrapper; first | (rw [if_pos (by decide +kernel)]; kernel_rfl) | (rw [if_neg (by decide +kernel)]; exact ⟨rfl, rfl⟩))
    (fun os started H enc _ => lifted os started H enc)

set_option maxRecDepth 100000 in
theorem proved : Rows.FnExactFieldOfSaid :=
  over
#print axioms proved
end Go.Proofs.Ytkkbhlaakhkjnaa.fnExactFieldOf
