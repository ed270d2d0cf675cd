/- FnExactRingSum: for every argument the law answers true: the program's function returns what the reference returns; the listed package variables hold what the program's text lays (tied). -/
import Derived.Test.YteogdfiaobccfaaDoorPost
import Derived.Test.YteogdfiaobccfaaDoorRingT
import Derived.Test.YteogdfiaobccfaaDoorCards
import Derived.Test.YteogdfiaobccfaaDoorTie
import Derived.Stop.LaidErr
import Derived.LaidMore
import Derived.Stop.Joined
import Derived.SevenTiedAt
import Derived.WalkSmall
import Derived.LaidHandle
import Derived.Test.YteogdfiaobccfaaDoorRingQ
import Derived.Test.YteogdfiaobccfaaDoorRingH
import Derived.Test.YteogdfiaobccfaaDoorRingQI
import Derived.Deep.RegionHeld3
namespace Go.Proofs.YteogdfiaobccfaaDoor.fnExactRingSum
open Go.ChangeShapes Go.WideShapes Go.ChangeAt Go.RowKit
open Go.WideMaps Go.WideElems
open Go.ChangeMaps (open_string shut_string)
set_option linter.unusedVariables false

set_option maxRecDepth 100000 in
theorem own : ownKnob Tryd.prog.godebug = none := by kernel_rfl

set_option maxRecDepth 100000 in
set_option maxHeartbeats 8000000 in
theorem walk (w : World) (p0 : Addr) (hc0 : w.cell? ⟨0, 0, none⟩ = some (.iface 111 (.pointer (some p0)))) (hh : w.cell? ⟨1, 0, none⟩ = some (.iface 98 (.agg #[.pointer (some ⟨2, 76, none⟩)]))) (m0 : RingD) (uc0 us0 : Value) (a1 : Int) (w0 : rd .i64 w.heap.size w uc0 m0.2.2.1) (z0 : rd .i64 w.heap.size w us0 m0.2.2.2) (n0 : (Lit.int .i64 m0.1).wf = true ∧ (Lit.int .i64 m0.2.1).wf = true) (y0 : (m0.2.2.1.length ≤ maxLen ∧ ∀ x ∈ m0.2.2.1, (Lit.int .i64 x).wf = true) ∧ (m0.2.2.2.length ≤ maxLen ∧ ∀ x ∈ m0.2.2.2, (Lit.int .i64 x).wf = true)) (w1 : (Lit.int .i64 a1).wf = true) :
    Calls Tryd.prog 6 #[.agg #[.int .i64 m0.1, .int .i64 m0.2.1, uc0, us0], .int .i64 a1] w fun e w' => e = .returned (.bool true) ∧ Below w.heap.size w w' := by
  obtain ⟨AC0, cC0, rfl, -⟩ := w0.form
  obtain ⟨AS0, cS0, rfl, -⟩ := z0.form
  have HM0 := Lib.hid (ring_mk w0 z0)
  have HNC0 : Hid (m0.2.2.1.length ≤ maxLen) := Lib.hid y0.1.1
  have HNS0 : Hid (m0.2.2.2.length ≤ maxLen) := Lib.hid y0.2.1
  have HB0 : Hid (Below w.heap.size w (w.alloc (.cells #[.int .i64 m0.1, .int .i64 m0.2.1, .slice AC0 m0.2.2.1.length cC0, .slice AS0 m0.2.2.2.length cS0] 36))) := Lib.hid ((Below.refl w.heap.size w).alloc (Nat.le_refl _) (.cells #[.int .i64 m0.1, .int .i64 m0.2.1, .slice AC0 m0.2.2.1.length cC0, .slice AS0 m0.2.2.2.length cS0] 36))
  have HX : Hid (∀ wr, Below (w.heap.size + 1) (w.alloc (.cells #[.int .i64 m0.1, .int .i64 m0.2.1, .slice AC0 m0.2.2.1.length cC0, .slice AS0 m0.2.2.2.length cS0] 36)) wr → wr.cell? ⟨w.heap.size, 0, none⟩ = some (.int .i64 m0.1) ∧ wr.cell? ⟨w.heap.size, 1, none⟩ = some (.int .i64 m0.2.1) ∧ wr.cell? ⟨w.heap.size, 2, none⟩ = some (.slice AC0 m0.2.2.1.length cC0) ∧ wr.cell? ⟨w.heap.size, 3, none⟩ = some (.slice AS0 m0.2.2.2.length cS0)) := Lib.hid fun wr hw => ⟨(hw.cell (p := ⟨w.heap.size, 0, none⟩) (show w.heap.size < _ by omega)).trans (by simp), (hw.cell (p := ⟨w.heap.size, 1, none⟩) (show w.heap.size < _ by omega)).trans (by simp), (hw.cell (p := ⟨w.heap.size, 2, none⟩) (show w.heap.size < _ by omega)).trans (by simp), (hw.cell (p := ⟨w.heap.size, 3, none⟩) (show w.heap.size < _ by omega)).trans (by simp)⟩
  clear w0 z0 n0 y0
  have HHD : Hid (Handle w) := Lib.hid hh
  clear hh
  go_enter Tryd.func6, Tryd.ntmps6
  go_wp2_with fail
  replace HM0 := Lib.hid (Rep.below (R := RingR) HM0.out HB0.out (Nat.le_refl _))
  refine (szRing_r HM0.out HNC0.out HNS0.out (by omega) (by omega)).mono ?_
  rintro e w1 ⟨r0, rfl, hr0, hb1⟩
  have z1 : w.heap.size + 1 ≤ w1.heap.size := by have := hb1.size; simp at this; omega
  have hB1 : Below (w.heap.size + 1) (w.alloc (.cells #[.int .i64 m0.1, .int .i64 m0.2.1, .slice AC0 m0.2.2.1.length cC0, .slice AS0 m0.2.2.2.length cS0] 36)) w1 := hb1.mono (by simp <;> omega)
  rcases hr0 with rfl | ⟨hr0, hp0⟩
  · go_wp2
    go_ret
    exact ⟨rfl, (HB0.out.trans (hB1.mono (by omega)))⟩
  have hlc0 : m0.2.2.1.length ≤ 1048576 := by unfold ringSz at hr0; omega
  have hls0 : m0.2.2.2.length ≤ 1048576 := by unfold ringSz at hr0; omega
  have hq0 : r0 ≤ 1048576 := by unfold ringSz at hr0; omega
  replace HM0 := Lib.hid (Rep.below (R := RingR) HM0.out (hB1.mono (by omega)) (Nat.le_refl _))
  obtain ⟨x0, x1, x2, x3⟩ := HX.out w1 hB1
  have HR0 := Lib.hid hr0
  clear hr0 hb1
  go_wp2_with fail
  refine (toRing_r HM0.out (by omega) hlc0 hls0).mono ?_
  rintro e w2 ⟨vc2, vs2, rfl, hu2, hb2⟩
  obtain ⟨AC_2, cc2, rfl, -⟩ := (ring2 hu2.rd).1.form
  obtain ⟨AS_2, cs2, rfl, -⟩ := (ring2 hu2.rd).2.form
  have z2 : w1.heap.size ≤ w2.heap.size := hb2.size
  have hB2 := hB1.trans (hb2.mono (show w.heap.size + 1 ≤ _ by omega))
  replace HM0 := Lib.hid (Rep.below (R := RingR) HM0.out hb2 (by omega))
  have H2 := Lib.hid hu2
  clear x0 x1 x2 x3
  obtain ⟨x0, x1, x2, x3⟩ := HX.out w2 hB2
  go_wp2_with fail
  refine (specSum_any _ _ _ m0 a1 w2 (ring2 H2.out.rd).1 (ring2 H2.out.rd).2 (by omega) hlc0 hls0).mono ?_
  rintro e w3 ⟨rfl, hb3⟩
  have z3 : w2.heap.size ≤ w3.heap.size := hb3.size
  have hB3 := hB2.trans (hb3.mono (show w.heap.size + 1 ≤ _ by omega))
  replace HM0 := Lib.hid (Rep.below (R := RingR) HM0.out hb3 (by omega))
  replace H2 := Lib.hid (H2.out.below hb3 (by omega))
  clear x0 x1 x2 x3
  obtain ⟨x0, x1, x2, x3⟩ := HX.out w3 hB3
  clear H2
  go_wp2_with fail
  refine (toRing_r HM0.out (by omega) hlc0 hls0).mono ?_
  rintro e w4 ⟨vc4, vs4, rfl, hu4, hb4⟩
  obtain ⟨AC_4, cc4, rfl, -⟩ := (ring2 hu4.rd).1.form
  obtain ⟨AS_4, cs4, rfl, -⟩ := (ring2 hu4.rd).2.form
  have z4 : w3.heap.size ≤ w4.heap.size := hb4.size
  have hB4 := hB3.trans (hb4.mono (show w.heap.size + 1 ≤ _ by omega))
  replace HM0 := Lib.hid (Rep.below (R := RingR) HM0.out hb4 (by omega))
  have H4 := Lib.hid hu4
  clear x0 x1 x2 x3
  obtain ⟨x0, x1, x2, x3⟩ := HX.out w4 hB4
  have yy4_0 : w.heap.size < w4.heap.size := by omega
  go_wp2_with fail
  have hb5 := (Below.refl w4.heap.size w4).alloc (Nat.le_refl _) (.cells #[.int .i64 m0.1, .int .i64 m0.2.1, .slice AC_4 m0.2.2.1.length cc4, .slice AS_4 m0.2.2.2.length cs4] 27)
  have hX4 := heap_alloc_new w4 (.cells #[.int .i64 m0.1, .int .i64 m0.2.1, .slice AC_4 m0.2.2.1.length cc4, .slice AS_4 m0.2.2.2.length cs4] 27)
  generalize w4.alloc (.cells #[.int .i64 m0.1, .int .i64 m0.2.1, .slice AC_4 m0.2.2.1.length cc4, .slice AS_4 m0.2.2.2.length cs4] 27) = w5 at hb5 hX4 ⊢
  have z5 : w4.heap.size ≤ w5.heap.size := hb5.size
  have zl5 : w4.heap.size < w5.heap.size := lt_of_block hX4
  have hB5 := hB4.trans (hb5.mono (show w.heap.size + 1 ≤ _ by omega))
  replace HM0 := Lib.hid (Rep.below (R := RingR) HM0.out hb5 (by omega))
  replace H4 := Lib.hid (H4.out.below hb5 (by omega))
  have X4 := Lib.hid hX4
  clear hX4
  clear x0 x1 x2 x3
  obtain ⟨x0, x1, x2, x3⟩ := HX.out w5 hB5
  have X4c0 := cell_of_row _ _ 0 _ _ (0, 0) X4.out
  have X4c1 := cell_of_row _ _ 1 _ _ (0, 0) X4.out
  have X4c2 := cell_of_row _ _ 2 _ _ (0, 0) X4.out
  have X4c3 := cell_of_row _ _ 3 _ _ (0, 0) X4.out
  simp only [List.getElem?_toArray, List.getElem?_cons_zero, List.getElem?_cons_succ] at X4c0 X4c1 X4c2 X4c3
  go_wp2_with fail
  refine (implSum_any _ _ _ m0 a1 w5 (HHD.out.below (HB0.out.trans (hB5.mono (by omega))) (Nat.le_refl _)) (ring2 H4.out.rd).1 (ring2 H4.out.rd).2 (by omega) hlc0 hls0).mono ?_
  rintro e w6 ⟨rfl, hb6⟩
  have z6 : w5.heap.size ≤ w6.heap.size := hb6.size
  have hB6 := hB5.trans (hb6.mono (show w.heap.size + 1 ≤ _ by omega))
  replace HM0 := Lib.hid (Rep.below (R := RingR) HM0.out hb6 (by omega))
  replace H4 := Lib.hid (H4.out.below hb6 (by omega))
  replace X4 := Lib.hid ((hb6.block _ (by omega)).trans X4.out)
  clear x0 x1 x2 x3
  obtain ⟨x0, x1, x2, x3⟩ := HX.out w6 hB6
  clear X4c0 X4c1 X4c2 X4c3
  have X4c0 := cell_of_row _ _ 0 _ _ (0, 0) X4.out
  have X4c1 := cell_of_row _ _ 1 _ _ (0, 0) X4.out
  have X4c2 := cell_of_row _ _ 2 _ _ (0, 0) X4.out
  have X4c3 := cell_of_row _ _ 3 _ _ (0, 0) X4.out
  simp only [List.getElem?_toArray, List.getElem?_cons_zero, List.getElem?_cons_succ] at X4c0 X4c1 X4c2 X4c3
  generalize ringTotal m0 a1 true = tot
  go_wp2
  have hD : Below w6.heap.size w6 w6.drew := (Below.refl _ _).drew
  have zD : w6.drew.heap.size = w6.heap.size := rfl
  go_region_held3 (fun V => V.cell? ⟨w4.heap.size, 0, none⟩ = some (.int .i64 m0.1) ∧ V.cell? ⟨w4.heap.size, 1, none⟩ = some (.int .i64 m0.2.1) ∧ V.cell? ⟨w4.heap.size, 2, none⟩ = some (.slice AC_4 m0.2.2.1.length cc4) ∧ V.cell? ⟨w4.heap.size, 3, none⟩ = some (.slice AS_4 m0.2.2.2.length cs4) ∧ V.cell? ⟨w.heap.size, 0, none⟩ = some (.int .i64 m0.1) ∧ V.cell? ⟨w.heap.size, 1, none⟩ = some (.int .i64 m0.2.1) ∧ V.cell? ⟨w.heap.size, 2, none⟩ = some (.slice AC0 m0.2.2.1.length cC0) ∧ V.cell? ⟨w.heap.size, 3, none⟩ = some (.slice AS0 m0.2.2.2.length cS0)) (go_keep) (first | (go_at_call 17; refine (toRing_r (r := m0) (w := w6.drew) (Rep.below (R := RingR) HM0.out hD (by omega)) (show w.heap.size ≤ w6.heap.size by omega) hlc0 hls0).mono ?_; rintro e w7 ⟨vcq, vsq, rfl, huq, hbq⟩; obtain ⟨ACq, ccq, rfl, -⟩ := (ring2 huq.rd).1.form; obtain ⟨ASq, csq, rfl, -⟩ := (ring2 huq.rd).2.form; have hbq : Below w6.heap.size w6.drew w7 := hbq; have huq : RingR.mine w6.heap.size w7.heap.size w7 [.int .i64 m0.1, .int .i64 m0.2.1, .slice ACq m0.2.2.1.length ccq, .slice ASq m0.2.2.2.length csq] m0 := huq; have zq : w6.heap.size ≤ w7.heap.size := hbq.size; have qa0 := (hbq.cell (p := ⟨w4.heap.size, 0, none⟩) (show w4.heap.size < _ by omega)).trans X4c0; have qa1 := (hbq.cell (p := ⟨w4.heap.size, 1, none⟩) (show w4.heap.size < _ by omega)).trans X4c1; have qa2 := (hbq.cell (p := ⟨w4.heap.size, 2, none⟩) (show w4.heap.size < _ by omega)).trans X4c2; have qa3 := (hbq.cell (p := ⟨w4.heap.size, 3, none⟩) (show w4.heap.size < _ by omega)).trans X4c3; have qa4 := (hbq.cell (p := ⟨w.heap.size, 0, none⟩) (show w.heap.size < _ by omega)).trans x0; have qa5 := (hbq.cell (p := ⟨w.heap.size, 1, none⟩) (show w.heap.size < _ by omega)).trans x1; have qa6 := (hbq.cell (p := ⟨w.heap.size, 2, none⟩) (show w.heap.size < _ by omega)).trans x2; have qa7 := (hbq.cell (p := ⟨w.heap.size, 3, none⟩) (show w.heap.size < _ by omega)).trans x3) | (go_at_call 18; refine (eqRing_r (H4.out.below (hD.trans hbq) (by omega)).rd huq.rd (by omega) (Nat.le_refl _) hlc0 hls0).mono ?_; rintro e w8 ⟨rfl, hbr⟩; have zr : w7.heap.size ≤ w8.heap.size := hbr.size; have qb0 := (hbr.cell (p := ⟨w4.heap.size, 0, none⟩) (show w4.heap.size < _ by omega)).trans qa0; have qb1 := (hbr.cell (p := ⟨w4.heap.size, 1, none⟩) (show w4.heap.size < _ by omega)).trans qa1; have qb2 := (hbr.cell (p := ⟨w4.heap.size, 2, none⟩) (show w4.heap.size < _ by omega)).trans qa2; have qb3 := (hbr.cell (p := ⟨w4.heap.size, 3, none⟩) (show w4.heap.size < _ by omega)).trans qa3; have qb4 := (hbr.cell (p := ⟨w.heap.size, 0, none⟩) (show w.heap.size < _ by omega)).trans qa4; have qb5 := (hbr.cell (p := ⟨w.heap.size, 1, none⟩) (show w.heap.size < _ by omega)).trans qa5; have qb6 := (hbr.cell (p := ⟨w.heap.size, 2, none⟩) (show w.heap.size < _ by omega)).trans qa6; have qb7 := (hbr.cell (p := ⟨w.heap.size, 3, none⟩) (show w.heap.size < _ by omega)).trans qa7))
  have hb8 : Below w6.heap.size w6 w8 := (hD.trans (hbq.mono (show w6.heap.size ≤ _ by omega))).trans (hbr.mono (show w6.heap.size ≤ _ by omega))
  have hB8 := hB6.trans (hb8.mono (show w.heap.size + 1 ≤ _ by omega))
  have z8 : w6.heap.size ≤ w8.heap.size := hb8.size
  clear hbq hbr huq qa0 qb0 qa1 qb1 qa2 qb2 qa3 qb3 qa4 qb4 qa5 qb5 qa6 qb6 qa7 qb7 hD zD
  replace HM0 := Lib.hid (Rep.below (R := RingR) HM0.out hb8 (by omega))
  replace H4 := Lib.hid (H4.out.below hb8 (by omega))
  replace X4 := Lib.hid ((hb8.block _ (by omega)).trans X4.out)
  clear x0 x1 x2 x3
  obtain ⟨x0, x1, x2, x3⟩ := HX.out w8 hB8
  clear X4c0 X4c1 X4c2 X4c3
  have X4c0 := cell_of_row _ _ 0 _ _ (0, 0) X4.out
  have X4c1 := cell_of_row _ _ 1 _ _ (0, 0) X4.out
  have X4c2 := cell_of_row _ _ 2 _ _ (0, 0) X4.out
  have X4c3 := cell_of_row _ _ 3 _ _ (0, 0) X4.out
  simp only [List.getElem?_toArray, List.getElem?_cons_zero, List.getElem?_cons_succ] at X4c0 X4c1 X4c2 X4c3
  go_wp2
  go_ret
  exact ⟨rfl, (HB0.out.trans (hB8.mono (by omega)))⟩

set_option maxRecDepth 100000 in
theorem t0 : (Tryd.prog.globals[0]?).map (·.type) = some 76 := by kernel_rfl
set_option maxRecDepth 100000 in
theorem g0 : Tryd.prog.globalNamed "loop.example/g00735/impl.errNotMoney" = some 0 := by kernel_rfl
set_option maxRecDepth 100000 in
theorem cellsE : Tryd.prog.cellsOf 133 = 1 := by kernel_rfl
set_option maxRecDepth 100000 in
theorem cellsS : Tryd.prog.cellsOf 9 = 1 := by kernel_rfl
set_option maxRecDepth 100000 in
theorem star : "*" ++ "errors.errorString" = "*errors.errorString" := by decide
set_option maxRecDepth 100000 in
theorem rowE (u : TypeId) (h : Tryd.prog.typeName? 3 u = some "*errors.errorString") : u = 111 :=
  typeName_ptr_named (nm := "errors.errorString") (by rw [star]; kernel_rfl) (by kernel_rfl) (by decide) u (by rw [star]; exact h)
set_option maxRecDepth 100000 in
theorem gH : Tryd.prog.globalNamed "errors.errorType" = some 1 := by kernel_rfl
set_option maxRecDepth 100000 in
theorem rtH : (Tryd.prog.cutTypes.find? (·.1 == "internal/reflectlite.rtype")).map (·.2) = some 98 := by kernel_rfl
set_option maxRecDepth 100000 in
theorem oneH : ((List.range Tryd.prog.types.size).filter fun t => Tryd.prog.rowNamed t [101, 114, 114, 111, 114]) = [76] := by kernel_rfl
set_option maxRecDepth 100000 in
theorem handle_of {W : World} (h : handlesMet Tryd.prog [("errors.errorType", Rows.laid_errors_errorType)] W) : W.cell? ⟨1, 0, none⟩ = some (.iface 98 (.agg #[.pointer (some ⟨2, 76, none⟩)])) := by
  obtain ⟨name, u, ty, e1, e2, e3, e4, e5⟩ := h _ (List.mem_singleton.2 rfl)
  have en : name = [101, 114, 114, 111, 114] := (Option.some.inj e1).symm
  subst en
  obtain rfl := Option.some.inj (rtH.symm.trans e2)
  have hm : ty ∈ (List.range Tryd.prog.types.size).filter fun t => Tryd.prog.rowNamed t [101, 114, 114, 111, 114] := List.mem_filter.2 ⟨List.mem_range.2 e3, e4⟩
  rw [oneH] at hm
  obtain rfl := List.mem_singleton.1 hm
  have hh : typeHandle Tryd.prog 76 = .pointer (some ⟨2, 76, none⟩) := by kernel_rfl
  rw [hh] at e5
  simpa using World.var?_cell gH e5 0

set_option maxRecDepth 100000 in
theorem laidOut : laidOutB Tryd.prog = true := by kernel_rfl
set_option maxRecDepth 100000 in
theorem rowed : allRowed Tryd.prog Tryd.f6.params.toList = true := by kernel_rfl
set_option maxRecDepth 100000 in
theorem resT : Tryd.f6.resultTypes = #[4] := by kernel_rfl
set_option maxRecDepth 100000 in
theorem door_met (os : Os) (args : Array Value) : laidMetH Tryd.prog Rows.fnExactRingSumRow.laid ((World.doorLaid Tryd.prog 400 os).forCall (fun _ _ => 0) ⟨#[], args, []⟩).memory :=
  laidMetH_of_parts3 (fuel := 8) (laidMet_of_run' 8 (by kernel_rfl) (by kernel_rfl)) (by kernel_rfl) (by kernel_rfl)

set_option maxRecDepth 100000 in
theorem lifted (os : Os) (started : os.Started) (H : Type) (enc : TypeId × Value → H) :
    ReturnsInHanded {} Tryd.checked os 6 .any (fun w args => (Rows.fnExactRingSumSpec.pre enc Tryd.prog Tryd.f6 [] false w args ∧ laidMetH Tryd.prog Rows.fnExactRingSumRow.laid w) ∧ sizedMet enc Tryd.prog Tryd.f6 (OpenSpec.ofChange Rows.fnExactRingSumSpec) false w args)
      (Rows.fnExactRingSumSpec.post enc Tryd.prog Tryd.f6 false true false false) := by
  refine returnsInHanded_of_change_and (C := Tryd.checked) (X := fun w _ => laidMetH Tryd.prog Rows.fnExactRingSumRow.laid w) (fun _ _ _ hh h => h.of_heap hh) own started (by kernel_rfl) Tryd.func6
    (ChangeSpec.witness_shaped (enc := enc) (C := Tryd.checked) (os := os) (X := fun w _ => laidMetH Tryd.prog Rows.fnExactRingSumRow.laid w) false (World.doorLaid Tryd.prog 400 os) #[.agg #[.int .i64 0, .int .i64 0, .slice none 0 0, .slice none 0 0], .int .i64 0] 8 rfl (World.shaped_of_RefB (by kernel_rfl) (by kernel_rfl)) (by kernel_rfl) (by kernel_rfl) (by kernel_rfl) (door_met os _)) ?_
  intro W base args ds gs before hval0 hW _ _ hL0 _
  have hval : ∀ (j : Nat) t v, Tryd.f6.params[j]? = some t → args[j]? = some v → Value.okWide Tryd.prog W .any base t v := hval0
  have hW' := hW
  obtain ⟨p, q, hA0, hV, rfl, hfz, hnd⟩ := hW
  have hA : DataW.TrodAll enc Tryd.prog W 0 (fun _ => true) true Tryd.f6.params.toList args.toList ds p := hA0
  rw [Tryd.params6] at hA hval
  have hh := handle_of hL0.2
  have hL : laidMet Tryd.prog [("loop.example/g00735/impl.errNotMoney", Rows.laid_loop_example_g00735_impl_errNotMoney)] W := hL0.1
  obtain ⟨b0, s0, hv0, _, _, _⟩ := laid_sentinel hL g0 t0 Tryd.underlying76 rowE Tryd.underlying111 Tryd.underlying133 rfl rfl Tryd.underlying9 cellsE cellsS
  have hc0 : W.cell? ⟨0, 0, none⟩ = some (.iface 111 (.pointer (some b0))) := by simpa using World.var?_cell g0 hv0 0
  have hlt0 : 0 < W.heap.size := by
    rcases Nat.lt_or_ge 0 W.heap.size with h | h
    · exact h
    · simp [World.cell?, Array.getElem?_eq_none h] at hc0
  obtain ⟨v0, vs0, d0, ds0, p0, q0, hargs, rfl, rfl, h0, r0⟩ := trodAll_cons hA
  obtain ⟨v1, vs1, d1, ds1, p1, q1, rfl, rfl, rfl, h1, r1⟩ := trodAll_cons r0
  obtain ⟨rfl, rfl, rfl⟩ := trodAll_nil r1
  obtain rfl : args = #[v0, v1] := by cases args; simp_all
  obtain ⟨rfl, rfl⟩ := hV.unique (vars_read1 enc g0 t0 Tryd.underlying76 hv0 trivial _)
  obtain ⟨m0, uc0, us0, rfl, w0, z0, n0a, n0b, y0a, y0b⟩ := open_ring (hval 0 36 v0 rfl rfl) h0
  obtain ⟨a1, rfl, rfl, rfl, w1⟩ := open_int Tryd.underlying3 (hval 1 3 v1 rfl rfl) h1
  clear hA0 hval0
  refine (walk W _ hc0 hh _ _ _ _ w0 z0 ⟨n0a, n0b⟩ ⟨y0a, y0b⟩ w1).mono fun e W' ⟨he, hg⟩ => ?_
  subst he
  exact ⟨_, rfl, post_true laidOut rowed hW' rfl resT Tryd.underlying4 hg (vars_read1 enc g0 t0 Tryd.underlying76 (var?_below hg g0 hlt0 hv0) trivial _)⟩

set_option maxRecDepth 100000 in
theorem over : Rows.fnExactRingSumRow.holds Tryd.pinned (OpenSpec.ofChange Rows.fnExactRingSumSpec) :=
  OpenClaim.holds_of_wide 6 Tryd.f6 rfl rfl rfl rfl rfl rfl rfl ⟨rfl, rfl, rfl, rfl, rfl⟩ rfl rfl rfl rfl rfl (by kernel_rfl) Tryd.func6 (by kernel_rfl)
    (of_decide_eq_true (by kernel_rfl)) (by unfold Func.isWrapper; first | (rw [if_pos (by decide +kernel)]; kernel_rfl) | (rw [if_neg (by decide +kernel)]; exact ⟨rfl, rfl⟩))
    (fun os started H enc _ => lifted os started H enc)

set_option maxRecDepth 100000 in
theorem said : Rows.FnExactRingSumSaid :=
  over

set_option maxRecDepth 100000 in
theorem plain (f : FuncId) (fn : Func) (hf : Tryd.pinned.checked.prog.funcNamed "loop.example/g00735/laws.FnExactRingSum" = some f) (hfn : Tryd.pinned.checked.prog.funcs[f]? = some fn) :
    Rows.fnExactRingSumCard.stood.looks = Tryd.pinned.checked.prog.looks [] ∧ ∀ (j : Nat) t, fn.params[j]? = some t → Tryd.pinned.checked.prog.wantsStandIn t = false := by
  obtain rfl : f = 6 := Option.some.inj ((show Tryd.prog.funcNamed "loop.example/g00735/laws.FnExactRingSum" = some 6 by kernel_rfl).symm.trans hf) |>.symm
  obtain rfl : fn = Tryd.f6 := (Option.some.inj (Tryd.func6.symm.trans hfn)).symm
  refine ⟨by kernel_rfl, fun j t ht => ?_⟩
  rw [Tryd.params6] at ht
  have hm : t ∈ [36, 3] := by simpa using Array.mem_of_getElem? ht
  have hall : ([36, 3].all fun u => !Tryd.prog.wantsStandIn u) = true := by kernel_rfl
  exact (show Tryd.prog.wantsStandIn t = false by simpa using List.all_eq_true.1 hall t hm)

set_option maxRecDepth 100000 in
theorem proved : Rows.FnExactRingSumCardSaid :=
  Claim7.holds_tied_plain_at .later [] _ _ _ _ said (fun _ h => by cases h) (by kernel_rfl) (fun _ h => by cases h) fnExactRingSum_row_tie rfl ⟨rfl, rfl⟩ (by kernel_rfl) rfl plain (by kernel_rfl)
#print axioms proved
end Go.Proofs.YteogdfiaobccfaaDoor.fnExactRingSum
