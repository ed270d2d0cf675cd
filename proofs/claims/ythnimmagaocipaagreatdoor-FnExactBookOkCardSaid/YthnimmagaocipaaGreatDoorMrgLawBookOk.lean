/- FnExactBookOk: for every argument the law answers true: the program's function returns what the reference returns; the listed package variables hold what the program's text lays (tied). -/
import Derived.Test.YthnimmagaocipaaGreatDoorMrg1
import Derived.Test.YthnimmagaocipaaGreatDoorMrg2
import Derived.Test.YthnimmagaocipaaGreatDoorCards
import Derived.Test.YthnimmagaocipaaGreatDoorTie
import Derived.Stop.LaidErr
import Derived.LaidMore
import Derived.Stop.Joined
import Derived.SevenTiedAt
import Derived.WalkSmall
import Derived.LaidHandle
import Derived.Test.YthnimmagaocipaaGreatDoorMrg6
import Derived.Test.YthnimmagaocipaaGreatDoorMrg3
import Derived.Test.YthnimmagaocipaaGreatDoorMrg7
import Derived.Test.YthnimmagaocipaaGreatDoorMrg5
import Derived.Deep.RegionHeld3
namespace Go.Proofs.YthnimmagaocipaaGreatDoor.fnExactBookOk
open Go.ChangeShapes Go.WideShapes Go.ChangeAt Go.RowKit
open Go.WideMaps Go.WideElems
open Go.ChangeMaps (open_string shut_string)
set_option linter.unusedVariables false

set_option maxRecDepth 100000 in
theorem own : ownKnob Tryz.prog.godebug = none := by kernel_rfl

set_option maxRecDepth 100000 in
set_option maxHeartbeats 8000000 in
theorem walk (w : World) (p0 : Addr) (hc0 : w.cell? ⟨0, 0, none⟩ = some (.iface 178 (.pointer (some p0)))) (hh : w.cell? ⟨1, 0, none⟩ = some (.iface 165 (.agg #[.pointer (some ⟨2, 142, none⟩)]))) (l0 : BookD) (vb0 : Value) (w0 : AcctsR.rd w.heap.size w [vb0] l0) (z0 : bookBig l0) :
    Calls Tryz.prog 3 #[.agg #[vb0]] w fun e w' => e = .returned (.bool true) ∧ Below w.heap.size w w' := by
  obtain ⟨AB0, cB0, rfl, -⟩ := Rep.slice_form w0
  have HX0 := Lib.hid w0
  have HY0 := Lib.hid z0
  clear w0 z0
  have HB0 : Hid (Below w.heap.size w (w.alloc (.cells #[.slice AB0 l0.length cB0] 24))) := Lib.hid ((Below.refl w.heap.size w).alloc (Nat.le_refl _) (.cells #[.slice AB0 l0.length cB0] 24))
  have HX : Hid (∀ wr, Below (w.heap.size + 1) (w.alloc (.cells #[.slice AB0 l0.length cB0] 24)) wr → wr.cell? ⟨w.heap.size, 0, none⟩ = some (.slice AB0 l0.length cB0)) := Lib.hid fun wr hw => (hw.cell (p := ⟨w.heap.size, 0, none⟩) (show w.heap.size < _ by omega)).trans (by simp)
  have HHD : Hid (Handle w) := Lib.hid hh
  clear hh
  go_enter Tryz.func3, Tryz.ntmps3
  go_wp2_with fail
  refine (szBook_any w.heap.size _ l0 1048576 (w.alloc (.cells #[.slice AB0 l0.length cB0] 24)) HY0.out (Rep.below (R := AcctsR) HX0.out HB0.out (Nat.le_refl _)) (by first | omega | (simp <;> omega)) (by omega) (by omega)).mono ?_
  rintro e w101 ⟨r0, rfl, hr0, hb1⟩
  have zz101 : w.heap.size + 1 ≤ w101.heap.size := by have := hb1.size; simp at this; omega
  have hB1 : Below (w.heap.size + 1) (w.alloc (.cells #[.slice AB0 l0.length cB0] 24)) w101 := hb1.mono (by simp <;> omega)
  have hw1 : Below w.heap.size w w101 := HB0.out.trans (hb1.mono (by simp <;> omega))
  replace HX0 := Lib.hid (Rep.below (R := AcctsR) HX0.out hw1 (Nat.le_refl _))
  have x_0 := HX.out w101 hB1
  rcases hr0 with rfl | ⟨hr0, hp0⟩
  · go_wp2
    go_ret
    exact ⟨rfl, (HB0.out.trans (hB1.mono (by first | omega | (simp <;> omega))))⟩
  have hxz0 : bookSz l0 ≤ 1048576 := by omega
  have HS0 := Lib.hid (book_small hxz0)
  have hq0 : r0 ≤ 1048576 := by omega
  have HR0 := Lib.hid hr0
  have HXZ0 := Lib.hid hxz0
  clear hr0 hxz0
  go_wp2_with fail
  refine (toBook_any w.heap.size _ l0 w101 HS0.out HX0.out (by omega)).mono ?_
  rintro e w102 ⟨u_2, rfl, hu2, hb2⟩
  obtain ⟨A_2, c_2, rfl, -⟩ := Rep.slice_form (AcctsIv.rd hu2)
  have zz102 : w101.heap.size ≤ w102.heap.size := hb2.size
  have hB2 := hB1.trans (hb2.mono (show w.heap.size + 1 ≤ _ by omega))
  replace HX0 := Lib.hid (Rep.below (R := AcctsR) HX0.out hb2 (by omega))
  clear x_0
  have x_0 := HX.out w102 hB2
  have H2 := Lib.hid hu2
  go_wp2_with fail
  refine (specBookOk_any _ _ l0 w102 HS0.out HY0.out.2 (AcctsIv.rd H2.out) (by omega)).mono ?_
  rintro e w103 ⟨rfl, hb3⟩
  have zz103 : w102.heap.size ≤ w103.heap.size := hb3.size
  have hB3 := hB2.trans (hb3.mono (show w.heap.size + 1 ≤ _ by omega))
  replace HX0 := Lib.hid (Rep.below (R := AcctsR) HX0.out hb3 (by omega))
  replace H2 := Lib.hid (AcctsIv.below H2.out hb3 (by omega))
  clear x_0
  have x_0 := HX.out w103 hB3
  clear H2
  go_wp2_with fail
  refine (toBook_any w.heap.size _ l0 w103 HS0.out HX0.out (by omega)).mono ?_
  rintro e w104 ⟨u_4, rfl, hu4, hb4⟩
  obtain ⟨A_4, c_4, rfl, -⟩ := Rep.slice_form (AcctsIv.rd hu4)
  have zz104 : w103.heap.size ≤ w104.heap.size := hb4.size
  have hB4 := hB3.trans (hb4.mono (show w.heap.size + 1 ≤ _ by omega))
  replace HX0 := Lib.hid (Rep.below (R := AcctsR) HX0.out hb4 (by omega))
  clear x_0
  have x_0 := HX.out w104 hB4
  have H4 := Lib.hid hu4
  have yy4_0 : w.heap.size < w104.heap.size := by omega
  go_wp2_with fail
  have hb5 := (Below.refl w104.heap.size w104).alloc (Nat.le_refl _) (.cells #[.slice A_4 l0.length c_4] 29)
  have hX4 := heap_alloc_new w104 (.cells #[.slice A_4 l0.length c_4] 29)
  generalize w104.alloc (.cells #[.slice A_4 l0.length c_4] 29) = w105 at hb5 hX4 ⊢
  have zz105 : w104.heap.size ≤ w105.heap.size := hb5.size
  have zl5 : w104.heap.size < w105.heap.size := lt_of_block hX4
  have hB5 := hB4.trans (hb5.mono (show w.heap.size + 1 ≤ _ by omega))
  replace HX0 := Lib.hid (Rep.below (R := AcctsR) HX0.out hb5 (by omega))
  replace H4 := Lib.hid (AcctsIv.below H4.out hb5 (by omega))
  have X4 := Lib.hid hX4
  clear hX4
  clear x_0
  have x_0 := HX.out w105 hB5
  have X4c0 := cell_of_row _ _ 0 _ _ (0, 0) X4.out
  have X4c1 := cell_of_row _ _ 1 _ _ (0, 0) X4.out
  have X4c2 := cell_of_row _ _ 2 _ _ (0, 0) X4.out
  have X4c3 := cell_of_row _ _ 3 _ _ (0, 0) X4.out
  have X4c4 := cell_of_row _ _ 4 _ _ (0, 0) X4.out
  have X4c5 := cell_of_row _ _ 5 _ _ (0, 0) X4.out
  have X4c6 := cell_of_row _ _ 6 _ _ (0, 0) X4.out
  have X4c7 := cell_of_row _ _ 7 _ _ (0, 0) X4.out
  have X4c8 := cell_of_row _ _ 8 _ _ (0, 0) X4.out
  have X4c9 := cell_of_row _ _ 9 _ _ (0, 0) X4.out
  have X4c10 := cell_of_row _ _ 10 _ _ (0, 0) X4.out
  simp only [List.getElem?_toArray, List.getElem?_cons_zero, List.getElem?_cons_succ] at X4c0 X4c1 X4c2 X4c3 X4c4 X4c5 X4c6 X4c7 X4c8 X4c9 X4c10
  go_wp2_with fail
  refine (implBookOk_any _ _ l0 w105 (HHD.out.below (HB0.out.trans (hB5.mono (by first | omega | (simp <;> omega)))) (Nat.le_refl _)) HS0.out HY0.out.2 (AcctsIv.rd H4.out) (by omega)).mono ?_
  rintro e w106 ⟨rfl, hb6⟩
  have zz106 : w105.heap.size ≤ w106.heap.size := hb6.size
  have hB6 := hB5.trans (hb6.mono (show w.heap.size + 1 ≤ _ by omega))
  replace HX0 := Lib.hid (Rep.below (R := AcctsR) HX0.out hb6 (by omega))
  replace H4 := Lib.hid (AcctsIv.below H4.out hb6 (by omega))
  replace X4 := Lib.hid ((hb6.block _ (by omega)).trans X4.out)
  clear x_0
  have x_0 := HX.out w106 hB6
  clear X4c0
  have X4c0 := cell_of_row _ _ 0 _ _ (0, 0) X4.out
  simp only [List.getElem?_toArray, List.getElem?_cons_zero] at X4c0
  generalize bookOk l0 = res
  go_wp2
  have hD : Below w106.heap.size w106 w106.drew := (Below.refl _ _).drew
  have zD : w106.drew.heap.size = w106.heap.size := rfl
  go_region_held3 (fun V => V.cell? ⟨w104.heap.size, 0, none⟩ = some (.slice A_4 l0.length c_4) ∧ V.cell? ⟨w.heap.size, 0, none⟩ = some (.slice AB0 l0.length cB0)) (go_keep) (first | (go_at_call 8; refine (toBook_any w.heap.size _ l0 w106.drew HS0.out (Rep.below (R := AcctsR) HX0.out hD (by omega)) (show w.heap.size ≤ w106.heap.size by omega)).mono ?_; rintro e w107 ⟨uq, rfl, huq, hbq⟩; obtain ⟨Aq, cq, rfl, -⟩ := Rep.slice_form (AcctsIv.rd huq); have zq := hbq.size; have qa0 := (hbq.cell (p := ⟨w104.heap.size, 0, none⟩) (show w104.heap.size < _ by omega)).trans X4c0; have qa1 := (hbq.cell (p := ⟨w.heap.size, 0, none⟩) (show w.heap.size < _ by omega)).trans x_0) | (go_at_call 10; refine (eqBook_any _ _ _ _ l0 w107 HS0.out (AcctsIv.rd (AcctsIv.below (AcctsIv.below H4.out hD (by omega)) hbq (by omega))) (AcctsIv.rd huq) (by omega) (by omega)).mono ?_; rintro e w108 ⟨rfl, hbr⟩; have qb0 := (hbr.cell (p := ⟨w104.heap.size, 0, none⟩) (show w104.heap.size < _ by omega)).trans qa0; have qb1 := (hbr.cell (p := ⟨w.heap.size, 0, none⟩) (show w.heap.size < _ by omega)).trans qa1) | fail)
  have hb8 : Below w106.heap.size w106 w108 := (hD.trans (hbq.mono (show w106.heap.size ≤ _ by omega))).trans (hbr.mono (show w106.heap.size ≤ _ by omega))
  have hB8 := hB6.trans (hb8.mono (show w.heap.size + 1 ≤ _ by omega))
  have zz108 : w106.heap.size ≤ w108.heap.size := hb8.size
  clear hbq hbr huq qa0 qb0 qa1 qb1 hD zD
  replace HX0 := Lib.hid (Rep.below (R := AcctsR) HX0.out hb8 (by omega))
  replace H4 := Lib.hid (AcctsIv.below H4.out hb8 (by omega))
  replace X4 := Lib.hid ((hb8.block _ (by omega)).trans X4.out)
  clear x_0
  have x_0 := HX.out w108 hB8
  clear X4c0
  have X4c0 := cell_of_row _ _ 0 _ _ (0, 0) X4.out
  simp only [List.getElem?_toArray, List.getElem?_cons_zero] at X4c0
  go_wp2
  go_ret
  exact ⟨rfl, (HB0.out.trans (hB8.mono (by first | omega | (simp <;> omega))))⟩

set_option maxRecDepth 100000 in
theorem t0 : (Tryz.prog.globals[0]?).map (·.type) = some 142 := by kernel_rfl
set_option maxRecDepth 100000 in
theorem g0 : Tryz.prog.globalNamed "loop.example/g00735/impl.errNotMoney" = some 0 := by kernel_rfl
set_option maxRecDepth 100000 in
theorem cellsE : Tryz.prog.cellsOf 200 = 1 := by kernel_rfl
set_option maxRecDepth 100000 in
theorem cellsS : Tryz.prog.cellsOf 9 = 1 := by kernel_rfl
set_option maxRecDepth 100000 in
theorem star : "*" ++ "errors.errorString" = "*errors.errorString" := by decide
set_option maxRecDepth 100000 in
theorem rowE (u : TypeId) (h : Tryz.prog.typeName? 3 u = some "*errors.errorString") : u = 178 :=
  typeName_ptr_named (nm := "errors.errorString") (by rw [star]; kernel_rfl) (by kernel_rfl) (by decide) u (by rw [star]; exact h)
set_option maxRecDepth 100000 in
theorem gH : Tryz.prog.globalNamed "errors.errorType" = some 1 := by kernel_rfl
set_option maxRecDepth 100000 in
theorem rtH : (Tryz.prog.cutTypes.find? (·.1 == "internal/reflectlite.rtype")).map (·.2) = some 165 := by kernel_rfl
set_option maxRecDepth 100000 in
theorem oneH : ((List.range Tryz.prog.types.size).filter fun t => Tryz.prog.rowNamed t [101, 114, 114, 111, 114]) = [142] := by kernel_rfl
set_option maxRecDepth 100000 in
theorem handle_of {W : World} (h : handlesMet Tryz.prog [("errors.errorType", Rows.laid_errors_errorType)] W) : W.cell? ⟨1, 0, none⟩ = some (.iface 165 (.agg #[.pointer (some ⟨2, 142, none⟩)])) := by
  obtain ⟨name, u, ty, e1, e2, e3, e4, e5⟩ := h _ (List.mem_singleton.2 rfl)
  have en : name = [101, 114, 114, 111, 114] := (Option.some.inj e1).symm
  subst en
  obtain rfl := Option.some.inj (rtH.symm.trans e2)
  have hm : ty ∈ (List.range Tryz.prog.types.size).filter fun t => Tryz.prog.rowNamed t [101, 114, 114, 111, 114] := List.mem_filter.2 ⟨List.mem_range.2 e3, e4⟩
  rw [oneH] at hm
  obtain rfl := List.mem_singleton.1 hm
  have hh : typeHandle Tryz.prog 142 = .pointer (some ⟨2, 142, none⟩) := by kernel_rfl
  rw [hh] at e5
  simpa using World.var?_cell gH e5 0

set_option maxRecDepth 100000 in
theorem laidOut : laidOutB Tryz.prog = true := by kernel_rfl
set_option maxRecDepth 100000 in
theorem rowed : allRowed Tryz.prog Tryz.f3.params.toList = true := by kernel_rfl
set_option maxRecDepth 100000 in
theorem resT : Tryz.f3.resultTypes = #[4] := by kernel_rfl
set_option maxRecDepth 100000 in
theorem door_met (os : Os) (args : Array Value) : laidMetH Tryz.prog Rows.fnExactBookOkRow.laid ((World.doorLaid Tryz.prog 400 os).forCall (fun _ _ => 0) ⟨#[], args, []⟩).memory :=
  laidMetH_of_parts3 (fuel := 8) (laidMet_of_run' 8 (by kernel_rfl) (by kernel_rfl)) (by kernel_rfl) (by kernel_rfl)

set_option maxRecDepth 100000 in
theorem lifted (os : Os) (started : os.Started) (H : Type) (enc : TypeId × Value → H) :
    ReturnsInHanded {} Tryz.checked os 3 .any (fun w args => (Rows.fnExactBookOkSpec.pre enc Tryz.prog Tryz.f3 [] false w args ∧ laidMetH Tryz.prog Rows.fnExactBookOkRow.laid w) ∧ sizedMet enc Tryz.prog Tryz.f3 (OpenSpec.ofChange Rows.fnExactBookOkSpec) false w args)
      (Rows.fnExactBookOkSpec.post enc Tryz.prog Tryz.f3 false true false false) := by
  refine returnsInHanded_of_change_and (C := Tryz.checked) (X := fun w _ => laidMetH Tryz.prog Rows.fnExactBookOkRow.laid w) (fun _ _ _ hh h => h.of_heap hh) own started (by kernel_rfl) Tryz.func3
    (ChangeSpec.witness_shaped (enc := enc) (C := Tryz.checked) (os := os) (X := fun w _ => laidMetH Tryz.prog Rows.fnExactBookOkRow.laid w) false (World.doorLaid Tryz.prog 400 os) #[.agg #[.slice none 0 0]] 8 rfl (World.shaped_of_RefB (by kernel_rfl) (by kernel_rfl)) (by kernel_rfl) (by kernel_rfl) (by kernel_rfl) (door_met os _)) ?_
  intro W base args ds gs before hval0 hW _ _ hL0 _
  have hval : ∀ (j : Nat) t v, Tryz.f3.params[j]? = some t → args[j]? = some v → Value.okWide Tryz.prog W .any base t v := hval0
  have hW' := hW
  obtain ⟨p, q, hA0, hV, rfl, hfz, hnd⟩ := hW
  have hA : DataW.TrodAll enc Tryz.prog W 0 (fun _ => true) true Tryz.f3.params.toList args.toList ds p := hA0
  rw [Tryz.params3] at hA hval
  have hh := handle_of hL0.2
  have hL : laidMet Tryz.prog [("loop.example/g00735/impl.errNotMoney", Rows.laid_loop_example_g00735_impl_errNotMoney)] W := hL0.1
  obtain ⟨b0, s0, hv0, _, _, _⟩ := laid_sentinel hL g0 t0 Tryz.underlying142 rowE Tryz.underlying178 Tryz.underlying200 rfl rfl Tryz.underlying9 cellsE cellsS
  have hc0 : W.cell? ⟨0, 0, none⟩ = some (.iface 178 (.pointer (some b0))) := by simpa using World.var?_cell g0 hv0 0
  have hlt0 : 0 < W.heap.size := by
    rcases Nat.lt_or_ge 0 W.heap.size with h | h
    · exact h
    · simp [World.cell?, Array.getElem?_eq_none h] at hc0
  obtain ⟨v0, vs0, d0, ds0, p0, q0, hargs, rfl, rfl, h0, r0⟩ := trodAll_cons hA
  obtain ⟨rfl, rfl, rfl⟩ := trodAll_nil r0
  obtain rfl : args = #[v0] := by cases args; simp_all
  obtain ⟨rfl, rfl⟩ := hV.unique (vars_read1 enc g0 t0 Tryz.underlying142 hv0 trivial _)
  obtain ⟨l0, vb0, rfl, w0, z0⟩ := open_book (hval 0 24 v0 rfl rfl) h0
  clear hA0 hval0
  refine (walk W _ hc0 hh _ _ w0 z0).mono fun e W' ⟨he, hg⟩ => ?_
  subst he
  exact ⟨_, rfl, post_true laidOut rowed hW' rfl resT Tryz.underlying4 hg (vars_read1 enc g0 t0 Tryz.underlying142 (var?_below hg g0 hlt0 hv0) trivial _)⟩

set_option maxRecDepth 100000 in
theorem over : Rows.fnExactBookOkRow.holds Tryz.pinned (OpenSpec.ofChange Rows.fnExactBookOkSpec) :=
  OpenClaim.holds_of_wide 3 Tryz.f3 rfl rfl rfl rfl rfl rfl rfl ⟨rfl, rfl, rfl, rfl, rfl⟩ rfl rfl rfl rfl rfl (by kernel_rfl) Tryz.func3 (by kernel_rfl)
    (of_decide_eq_true (by kernel_rfl)) (by unfold Func.isWrapper; first | (rw [if_pos (by decide +kernel)]; kernel_rfl) | (rw [if_neg (by decide +kernel)]; exact ⟨rfl, rfl⟩))
    (fun os started H enc _ => lifted os started H enc)

set_option maxRecDepth 100000 in
theorem said : Rows.FnExactBookOkSaid :=
  over

set_option maxRecDepth 100000 in
theorem plain (f : FuncId) (fn : Func) (hf : Tryz.pinned.checked.prog.funcNamed "loop.example/g00735/laws.FnExactBookOk" = some f) (hfn : Tryz.pinned.checked.prog.funcs[f]? = some fn) :
    Rows.fnExactBookOkCard.stood.looks = Tryz.pinned.checked.prog.looks [] ∧ ∀ (j : Nat) t, fn.params[j]? = some t → Tryz.pinned.checked.prog.wantsStandIn t = false := by
  obtain rfl : f = 3 := Option.some.inj ((show Tryz.prog.funcNamed "loop.example/g00735/laws.FnExactBookOk" = some 3 by kernel_rfl).symm.trans hf) |>.symm
  obtain rfl : fn = Tryz.f3 := (Option.some.inj (Tryz.func3.symm.trans hfn)).symm
  refine ⟨by kernel_rfl, fun j t ht => ?_⟩
  rw [Tryz.params3] at ht
  have hm : t ∈ [24] := by simpa using Array.mem_of_getElem? ht
  have hall : ([24].all fun u => !Tryz.prog.wantsStandIn u) = true := by kernel_rfl
  exact (show Tryz.prog.wantsStandIn t = false by simpa using List.all_eq_true.1 hall t hm)

set_option maxRecDepth 100000 in
theorem proved : Rows.FnExactBookOkCardSaid :=
  Claim7.holds_tied_plain_at .later [] _ _ _ _ said (fun _ h => by cases h) (by kernel_rfl) (fun _ h => by cases h) fnExactBookOk_row_tie rfl ⟨rfl, rfl⟩ (by kernel_rfl) rfl plain (by kernel_rfl)
#print axioms proved
end Go.Proofs.YthnimmagaocipaaGreatDoor.fnExactBookOk
