/- FnExactRingOk: for every argument the law answers true: the program's function returns what the reference returns; the listed package variables hold what the program's text lays (tied). -/
import Derived.Test.YteogdfiaobccfaaPost
import Derived.Test.YteogdfiaobccfaaRingT
import Derived.Test.YteogdfiaobccfaaRingS
import Derived.Test.YteogdfiaobccfaaRingH
import Derived.Test.YteogdfiaobccfaaRingOI
import Derived.Deep.RegionHeld3
namespace Go.Proofs.Yteogdfiaobccfaa.fnExactRingOk
open Go.ChangeShapes Go.WideShapes Go.ChangeAt Go.RowKit
open Go.WideMaps Go.WideElems
open Go.ChangeMaps (open_string shut_string)
set_option linter.unusedVariables false

set_option maxRecDepth 100000 in
theorem own : ownKnob Try.prog.godebug = none := by kernel_rfl

set_option maxRecDepth 100000 in
set_option maxHeartbeats 8000000 in
theorem walk (w : World)  (m0 : RingD) (uc0 us0 : Value) (w0 : rd .i64 w.heap.size w uc0 m0.2.2.1) (z0 : rd .i64 w.heap.size w us0 m0.2.2.2) (n0 : (Lit.int .i64 m0.1).wf = true ∧ (Lit.int .i64 m0.2.1).wf = true) (y0 : (m0.2.2.1.length ≤ maxLen ∧ ∀ x ∈ m0.2.2.1, (Lit.int .i64 x).wf = true) ∧ (m0.2.2.2.length ≤ maxLen ∧ ∀ x ∈ m0.2.2.2, (Lit.int .i64 x).wf = true)) :
    Calls Try.prog 4 #[.agg #[.int .i64 m0.1, .int .i64 m0.2.1, uc0, us0]] w fun e w' => e = .returned (.bool true) ∧ Below w.heap.size w w' := by
  obtain ⟨AC0, cC0, rfl, -⟩ := w0.form
  obtain ⟨AS0, cS0, rfl, -⟩ := z0.form
  have HM0 := Lib.hid (ring_mk w0 z0)
  have HNC0 : Hid (m0.2.2.1.length ≤ maxLen) := Lib.hid y0.1.1
  have HNS0 : Hid (m0.2.2.2.length ≤ maxLen) := Lib.hid y0.2.1
  have HB0 : Hid (Below w.heap.size w (w.alloc (.cells #[.int .i64 m0.1, .int .i64 m0.2.1, .slice AC0 m0.2.2.1.length cC0, .slice AS0 m0.2.2.2.length cS0] 30))) := Lib.hid ((Below.refl w.heap.size w).alloc (Nat.le_refl _) (.cells #[.int .i64 m0.1, .int .i64 m0.2.1, .slice AC0 m0.2.2.1.length cC0, .slice AS0 m0.2.2.2.length cS0] 30))
  have HX : Hid (∀ wr, Below (w.heap.size + 1) (w.alloc (.cells #[.int .i64 m0.1, .int .i64 m0.2.1, .slice AC0 m0.2.2.1.length cC0, .slice AS0 m0.2.2.2.length cS0] 30)) wr → wr.cell? ⟨w.heap.size, 0, none⟩ = some (.int .i64 m0.1) ∧ wr.cell? ⟨w.heap.size, 1, none⟩ = some (.int .i64 m0.2.1) ∧ wr.cell? ⟨w.heap.size, 2, none⟩ = some (.slice AC0 m0.2.2.1.length cC0) ∧ wr.cell? ⟨w.heap.size, 3, none⟩ = some (.slice AS0 m0.2.2.2.length cS0)) := Lib.hid fun wr hw => ⟨(hw.cell (p := ⟨w.heap.size, 0, none⟩) (show w.heap.size < _ by omega)).trans (by simp), (hw.cell (p := ⟨w.heap.size, 1, none⟩) (show w.heap.size < _ by omega)).trans (by simp), (hw.cell (p := ⟨w.heap.size, 2, none⟩) (show w.heap.size < _ by omega)).trans (by simp), (hw.cell (p := ⟨w.heap.size, 3, none⟩) (show w.heap.size < _ by omega)).trans (by simp)⟩
  clear w0 z0 n0 y0
  go_enter Try.func4, Try.ntmps4
  go_wp2_with fail
  replace HM0 := Lib.hid (Rep.below (R := RingR) HM0.out HB0.out (Nat.le_refl _))
  refine (szRing_r HM0.out HNC0.out HNS0.out (by omega) (by omega)).mono ?_
  rintro e w1 ⟨r0, rfl, hr0, hb1⟩
  have z1 : w.heap.size + 1 ≤ w1.heap.size := by have := hb1.size; simp at this; omega
  have hB1 : Below (w.heap.size + 1) (w.alloc (.cells #[.int .i64 m0.1, .int .i64 m0.2.1, .slice AC0 m0.2.2.1.length cC0, .slice AS0 m0.2.2.2.length cS0] 30)) w1 := hb1.mono (by simp <;> omega)
  rcases hr0 with rfl | ⟨hr0, hp0⟩
  · go_wp2
    go_ret
    exact ⟨rfl, (HB0.out.trans (hB1.mono (by omega)))⟩
  have hlc0 : m0.2.2.1.length ≤ 1048576 := by unfold ringSz at hr0; omega
  have hls0 : m0.2.2.2.length ≤ 1048576 := by unfold ringSz at hr0; omega
  have hq0 : r0 ≤ 1048576 := by unfold ringSz at hr0; omega
  replace HM0 := Lib.hid (Rep.below (R := RingR) HM0.out (hB1.mono (by omega)) (Nat.le_refl _))
  obtain ⟨x0, x1, x2, x3⟩ := HX.out w1 hB1
  have HR0 := Lib.hid hr0
  clear hr0 hb1
  go_wp2_with fail
  refine (toRing_r HM0.out (by omega) hlc0 hls0).mono ?_
  rintro e w2 ⟨vc2, vs2, rfl, hu2, hb2⟩
  obtain ⟨AC_2, cc2, rfl, -⟩ := (ring2 hu2.rd).1.form
  obtain ⟨AS_2, cs2, rfl, -⟩ := (ring2 hu2.rd).2.form
  have z2 : w1.heap.size ≤ w2.heap.size := hb2.size
  have hB2 := hB1.trans (hb2.mono (show w.heap.size + 1 ≤ _ by omega))
  replace HM0 := Lib.hid (Rep.below (R := RingR) HM0.out hb2 (by omega))
  have H2 := Lib.hid hu2
  clear x0 x1 x2 x3
  obtain ⟨x0, x1, x2, x3⟩ := HX.out w2 hB2
  go_wp2_with fail
  refine (specRingOk_any _ _ _ m0 w2 (ring2 H2.out.rd).1 (ring2 H2.out.rd).2 (by omega) hlc0 hls0).mono ?_
  rintro e w3 ⟨rfl, hb3⟩
  have z3 : w2.heap.size ≤ w3.heap.size := hb3.size
  have hB3 := hB2.trans (hb3.mono (show w.heap.size + 1 ≤ _ by omega))
  replace HM0 := Lib.hid (Rep.below (R := RingR) HM0.out hb3 (by omega))
  replace H2 := Lib.hid (H2.out.below hb3 (by omega))
  clear x0 x1 x2 x3
  obtain ⟨x0, x1, x2, x3⟩ := HX.out w3 hB3
  clear H2
  go_wp2_with fail
  refine (toRing_r HM0.out (by omega) hlc0 hls0).mono ?_
  rintro e w4 ⟨vc4, vs4, rfl, hu4, hb4⟩
  obtain ⟨AC_4, cc4, rfl, -⟩ := (ring2 hu4.rd).1.form
  obtain ⟨AS_4, cs4, rfl, -⟩ := (ring2 hu4.rd).2.form
  have z4 : w3.heap.size ≤ w4.heap.size := hb4.size
  have hB4 := hB3.trans (hb4.mono (show w.heap.size + 1 ≤ _ by omega))
  replace HM0 := Lib.hid (Rep.below (R := RingR) HM0.out hb4 (by omega))
  have H4 := Lib.hid hu4
  clear x0 x1 x2 x3
  obtain ⟨x0, x1, x2, x3⟩ := HX.out w4 hB4
  have yy4_0 : w.heap.size < w4.heap.size := by omega
  go_wp2_with fail
  have hb5 := (Below.refl w4.heap.size w4).alloc (Nat.le_refl _) (.cells #[.int .i64 m0.1, .int .i64 m0.2.1, .slice AC_4 m0.2.2.1.length cc4, .slice AS_4 m0.2.2.2.length cs4] 24)
  have hX4 := heap_alloc_new w4 (.cells #[.int .i64 m0.1, .int .i64 m0.2.1, .slice AC_4 m0.2.2.1.length cc4, .slice AS_4 m0.2.2.2.length cs4] 24)
  generalize w4.alloc (.cells #[.int .i64 m0.1, .int .i64 m0.2.1, .slice AC_4 m0.2.2.1.length cc4, .slice AS_4 m0.2.2.2.length cs4] 24) = w5 at hb5 hX4 ⊢
  have z5 : w4.heap.size ≤ w5.heap.size := hb5.size
  have zl5 : w4.heap.size < w5.heap.size := lt_of_block hX4
  have hB5 := hB4.trans (hb5.mono (show w.heap.size + 1 ≤ _ by omega))
  replace HM0 := Lib.hid (Rep.below (R := RingR) HM0.out hb5 (by omega))
  replace H4 := Lib.hid (H4.out.below hb5 (by omega))
  have X4 := Lib.hid hX4
  clear hX4
  clear x0 x1 x2 x3
  obtain ⟨x0, x1, x2, x3⟩ := HX.out w5 hB5
  have X4c0 := cell_of_row _ _ 0 _ _ (0, 0) X4.out
  have X4c1 := cell_of_row _ _ 1 _ _ (0, 0) X4.out
  have X4c2 := cell_of_row _ _ 2 _ _ (0, 0) X4.out
  have X4c3 := cell_of_row _ _ 3 _ _ (0, 0) X4.out
  simp only [List.getElem?_toArray, List.getElem?_cons_zero, List.getElem?_cons_succ] at X4c0 X4c1 X4c2 X4c3
  go_wp2_with fail
  refine (implRingOk_any _ _ _ m0 w5 (ring2 H4.out.rd).1 (ring2 H4.out.rd).2 (by omega) hlc0 hls0).mono ?_
  rintro e w6 ⟨rfl, hb6⟩
  have z6 : w5.heap.size ≤ w6.heap.size := hb6.size
  have hB6 := hB5.trans (hb6.mono (show w.heap.size + 1 ≤ _ by omega))
  replace HM0 := Lib.hid (Rep.below (R := RingR) HM0.out hb6 (by omega))
  replace H4 := Lib.hid (H4.out.below hb6 (by omega))
  replace X4 := Lib.hid ((hb6.block _ (by omega)).trans X4.out)
  clear x0 x1 x2 x3
  obtain ⟨x0, x1, x2, x3⟩ := HX.out w6 hB6
  clear X4c0 X4c1 X4c2 X4c3
  have X4c0 := cell_of_row _ _ 0 _ _ (0, 0) X4.out
  have X4c1 := cell_of_row _ _ 1 _ _ (0, 0) X4.out
  have X4c2 := cell_of_row _ _ 2 _ _ (0, 0) X4.out
  have X4c3 := cell_of_row _ _ 3 _ _ (0, 0) X4.out
  simp only [List.getElem?_toArray, List.getElem?_cons_zero, List.getElem?_cons_succ] at X4c0 X4c1 X4c2 X4c3
  generalize ringOk m0 = bok
  go_wp2
  have hD : Below w6.heap.size w6 w6.drew := (Below.refl _ _).drew
  have zD : w6.drew.heap.size = w6.heap.size := rfl
  go_region_held3 (fun V => V.cell? ⟨w4.heap.size, 0, none⟩ = some (.int .i64 m0.1) ∧ V.cell? ⟨w4.heap.size, 1, none⟩ = some (.int .i64 m0.2.1) ∧ V.cell? ⟨w4.heap.size, 2, none⟩ = some (.slice AC_4 m0.2.2.1.length cc4) ∧ V.cell? ⟨w4.heap.size, 3, none⟩ = some (.slice AS_4 m0.2.2.2.length cs4) ∧ V.cell? ⟨w.heap.size, 0, none⟩ = some (.int .i64 m0.1) ∧ V.cell? ⟨w.heap.size, 1, none⟩ = some (.int .i64 m0.2.1) ∧ V.cell? ⟨w.heap.size, 2, none⟩ = some (.slice AC0 m0.2.2.1.length cC0) ∧ V.cell? ⟨w.heap.size, 3, none⟩ = some (.slice AS0 m0.2.2.2.length cS0)) (go_keep) (first | (go_at_call 13; refine (toRing_r (r := m0) (w := w6.drew) (Rep.below (R := RingR) HM0.out hD (by omega)) (show w.heap.size ≤ w6.heap.size by omega) hlc0 hls0).mono ?_; rintro e w7 ⟨vcq, vsq, rfl, huq, hbq⟩; obtain ⟨ACq, ccq, rfl, -⟩ := (ring2 huq.rd).1.form; obtain ⟨ASq, csq, rfl, -⟩ := (ring2 huq.rd).2.form; have hbq : Below w6.heap.size w6.drew w7 := hbq; have huq : RingR.mine w6.heap.size w7.heap.size w7 [.int .i64 m0.1, .int .i64 m0.2.1, .slice ACq m0.2.2.1.length ccq, .slice ASq m0.2.2.2.length csq] m0 := huq; have zq : w6.heap.size ≤ w7.heap.size := hbq.size; have qa0 := (hbq.cell (p := ⟨w4.heap.size, 0, none⟩) (show w4.heap.size < _ by omega)).trans X4c0; have qa1 := (hbq.cell (p := ⟨w4.heap.size, 1, none⟩) (show w4.heap.size < _ by omega)).trans X4c1; have qa2 := (hbq.cell (p := ⟨w4.heap.size, 2, none⟩) (show w4.heap.size < _ by omega)).trans X4c2; have qa3 := (hbq.cell (p := ⟨w4.heap.size, 3, none⟩) (show w4.heap.size < _ by omega)).trans X4c3; have qa4 := (hbq.cell (p := ⟨w.heap.size, 0, none⟩) (show w.heap.size < _ by omega)).trans x0; have qa5 := (hbq.cell (p := ⟨w.heap.size, 1, none⟩) (show w.heap.size < _ by omega)).trans x1; have qa6 := (hbq.cell (p := ⟨w.heap.size, 2, none⟩) (show w.heap.size < _ by omega)).trans x2; have qa7 := (hbq.cell (p := ⟨w.heap.size, 3, none⟩) (show w.heap.size < _ by omega)).trans x3) | (go_at_call 8; refine (eqRing_r (H4.out.below (hD.trans hbq) (by omega)).rd huq.rd (by omega) (Nat.le_refl _) hlc0 hls0).mono ?_; rintro e w8 ⟨rfl, hbr⟩; have zr : w7.heap.size ≤ w8.heap.size := hbr.size; have qb0 := (hbr.cell (p := ⟨w4.heap.size, 0, none⟩) (show w4.heap.size < _ by omega)).trans qa0; have qb1 := (hbr.cell (p := ⟨w4.heap.size, 1, none⟩) (show w4.heap.size < _ by omega)).trans qa1; have qb2 := (hbr.cell (p := ⟨w4.heap.size, 2, none⟩) (show w4.heap.size < _ by omega)).trans qa2; have qb3 := (hbr.cell (p := ⟨w4.heap.size, 3, none⟩) (show w4.heap.size < _ by omega)).trans qa3; have qb4 := (hbr.cell (p := ⟨w.heap.size, 0, none⟩) (show w.heap.size < _ by omega)).trans qa4; have qb5 := (hbr.cell (p := ⟨w.heap.size, 1, none⟩) (show w.heap.size < _ by omega)).trans qa5; have qb6 := (hbr.cell (p := ⟨w.heap.size, 2, none⟩) (show w.heap.size < _ by omega)).trans qa6; have qb7 := (hbr.cell (p := ⟨w.heap.size, 3, none⟩) (show w.heap.size < _ by omega)).trans qa7))
  have hb8 : Below w6.heap.size w6 w8 := (hD.trans (hbq.mono (show w6.heap.size ≤ _ by omega))).trans (hbr.mono (show w6.heap.size ≤ _ by omega))
  have hB8 := hB6.trans (hb8.mono (show w.heap.size + 1 ≤ _ by omega))
  have z8 : w6.heap.size ≤ w8.heap.size := hb8.size
  clear hbq hbr huq qa0 qb0 qa1 qb1 qa2 qb2 qa3 qb3 qa4 qb4 qa5 qb5 qa6 qb6 qa7 qb7 hD zD
  replace HM0 := Lib.hid (Rep.below (R := RingR) HM0.out hb8 (by omega))
  replace H4 := Lib.hid (H4.out.below hb8 (by omega))
  replace X4 := Lib.hid ((hb8.block _ (by omega)).trans X4.out)
  clear x0 x1 x2 x3
  obtain ⟨x0, x1, x2, x3⟩ := HX.out w8 hB8
  clear X4c0 X4c1 X4c2 X4c3
  have X4c0 := cell_of_row _ _ 0 _ _ (0, 0) X4.out
  have X4c1 := cell_of_row _ _ 1 _ _ (0, 0) X4.out
  have X4c2 := cell_of_row _ _ 2 _ _ (0, 0) X4.out
  have X4c3 := cell_of_row _ _ 3 _ _ (0, 0) X4.out
  simp only [List.getElem?_toArray, List.getElem?_cons_zero, List.getElem?_cons_succ] at X4c0 X4c1 X4c2 X4c3
  go_wp2
  go_ret
  exact ⟨rfl, (HB0.out.trans (hB8.mono (by omega)))⟩


set_option maxRecDepth 100000 in
theorem laidOut : laidOutB Try.prog = true := by kernel_rfl
set_option maxRecDepth 100000 in
theorem rowed : allRowed Try.prog Try.f4.params.toList = true := by kernel_rfl
set_option maxRecDepth 100000 in
theorem resT : Try.f4.resultTypes = #[4] := by kernel_rfl
set_option maxRecDepth 100000 in
theorem lifted (os : Os) (started : os.Started) (H : Type) (enc : TypeId × Value → H) :
    ReturnsInHanded {} Try.checked os 4 .any (Rows.fnExactRingOkSpec.pre6 enc Try.prog Try.f4 Rows.fnExactRingOkRow.domain false) (Rows.fnExactRingOkSpec.post enc Try.prog Try.f4 false true false false) := by
  refine returnsInHanded_of_change (C := Try.checked) own started (by kernel_rfl) Try.func4
    (ChangeSpec.witness6 (enc := enc) (C := Try.checked) false ⟨#[], #[.agg #[.int .i64 0, .int .i64 0, .slice none 0 0, .slice none 0 0]], []⟩ 8 (by kernel_rfl) (by kernel_rfl) (by kernel_rfl) (by kernel_rfl)) ?_
  intro W base args ds gs before hval0 hW hcnd _
  have hval : ∀ (j : Nat) t v, Try.f4.params[j]? = some t → args[j]? = some v → Value.okWide Try.prog W .any base t v := hval0
  have hW' := hW
  obtain ⟨p, q, hA0, hV, rfl, hfz, hnd⟩ := hW
  have hA : DataW.TrodAll enc Try.prog W 0 (fun _ => true) true Try.f4.params.toList args.toList ds p := hA0
  rw [Try.params4] at hA hval
  obtain ⟨v0, vs0, d0, ds0, p0, q0, hargs, rfl, rfl, h0, r0⟩ := trodAll_cons hA
  obtain ⟨rfl, rfl, rfl⟩ := trodAll_nil r0
  obtain rfl : args = #[v0] := by cases args; simp_all
  obtain ⟨rfl, rfl⟩ := trodVars_none hV
  obtain ⟨m0, uc0, us0, rfl, w0, z0, n0a, n0b, y0a, y0b⟩ := open_ring (hval 0 30 v0 rfl rfl) h0
  clear hA0 hval0
  refine (walk W  _ _ _ w0 z0 ⟨n0a, n0b⟩ ⟨y0a, y0b⟩).mono fun e W' ⟨he, hg⟩ => ?_
  subst he
  exact ⟨_, rfl, post_true laidOut rowed hW' rfl resT Try.underlying4 hg (pv := []) rfl⟩

set_option maxRecDepth 100000 in
theorem over : Rows.fnExactRingOkRow.holds Try.pinned (OpenSpec.ofChange Rows.fnExactRingOkSpec) :=
  OpenClaim.holds_of_wide 4 Try.f4 rfl rfl rfl rfl rfl rfl rfl ⟨rfl, rfl, rfl, rfl, rfl⟩ rfl rfl rfl rfl rfl (by kernel_rfl) Try.func4 (by kernel_rfl)
    (of_decide_eq_true (by kernel_rfl)) (by unfold Func.isWrapper; first | (rw [if_pos (by decide +kernel)]; kernel_rfl) | (rw [if_neg (by decide +kernel)]; exact ⟨rfl, rfl⟩))
    (fun os started H enc _ => lifted os started H enc)

set_option maxRecDepth 100000 in
theorem proved : Rows.FnExactRingOkSaid :=
  over
#print axioms proved
end Go.Proofs.Yteogdfiaobccfaa.fnExactRingOk
