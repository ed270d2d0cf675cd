/- FnExactStored: for every argument the law answers true: the program's function returns what the reference returns; the listed package variables hold what the program's text lays (tied). -/
import Derived.Test.YtnjpcbmonipaoaaDoorPost
import Derived.Test.YtnjpcbmonipaoaaDoorOpenHold
import Derived.Test.YtnjpcbmonipaoaaDoorCards
import Derived.Test.YtnjpcbmonipaoaaDoorTie
import Derived.Stop.LaidErr
import Derived.LaidMore
import Derived.Stop.Joined
import Derived.SevenTiedAt
import Derived.WalkSmall
import Derived.LaidHandle
import Derived.Test.YtnjpcbmonipaoaaDoorOpenHold
import Derived.Test.YtnjpcbmonipaoaaDoorHoldIT
namespace Go.Proofs.YtnjpcbmonipaoaaDoor.fnExactStored
open Go.ChangeShapes Go.WideShapes Go.ChangeAt Go.RowKit
open Go.WideMaps Go.WideElems
open Go.ChangeMaps (open_string shut_string)
set_option linter.unusedVariables false

set_option maxRecDepth 100000 in
theorem own : ownKnob Tryd.prog.godebug = none := by kernel_rfl

set_option maxRecDepth 100000 in
set_option maxHeartbeats 8000000 in
theorem walk (w : World) (p0 : Addr) (hc0 : w.cell? ⟨0, 0, none⟩ = some (.iface 84 (.pointer (some p0)))) (hh : w.cell? ⟨1, 0, none⟩ = some (.iface 71 (.agg #[.pointer (some ⟨2, 43, none⟩)]))) (l0 : List HoldD) (u0 : Value) (w0 : HoldsR.rd w.heap.size w [u0] l0) (z0 : l0.length ≤ maxLen) (y0 : ∀ x ∈ l0, x.1.size ≤ maxLen) :
    Calls Tryd.prog 3 #[u0] w fun e w' => e = .returned (.bool true) ∧ Below w.heap.size w w' := by
  obtain ⟨AL0, cL0, rfl, -⟩ := Rep.slice_form w0
  have HL0 := Lib.hid w0
  have HN0 := Lib.hid z0
  have HY0 := Lib.hid y0
  clear w0 z0 y0
  have HB0 : Hid (Below w.heap.size w w) := Lib.hid (Below.refl w.heap.size w)
  have hB0 : Below w.heap.size w w := Below.refl _ _
  have HHD : Hid (Handle w) := Lib.hid hh
  clear hh
  go_enter Tryd.func3, Tryd.ntmps3
  go_wp2_with fail
  refine (szHolds_any w.heap.size _ l0 1048576 w HN0.out HY0.out HL0.out (Nat.le_refl _) (by omega) (by omega)).mono ?_
  rintro e w101 ⟨r0, rfl, hr0, hb1⟩
  have zz101 : w.heap.size ≤ w101.heap.size := hb1.size
  have hB1 : Below w.heap.size w w101 := hb1
  have hw1 : Below w.heap.size w w101 := hb1
  replace HL0 := Lib.hid (Rep.below (R := HoldsR) HL0.out hw1 (Nat.le_refl _))
  rcases hr0 with rfl | ⟨hr0, hp0⟩
  · go_wp2
    go_ret
    exact ⟨rfl, hB1⟩
  have hl0 : l0.length ≤ 1048576 := by unfold holdsSz at hr0; omega
  have hq0 : r0 ≤ 1048576 := by omega
  have HR0 := Lib.hid hr0
  clear hr0
  go_wp2_with fail
  refine (toHolds_any w.heap.size _ l0 w101 hl0 HL0.out (by omega)).mono ?_
  rintro e w102 ⟨u_2, rfl, hu2, hb2⟩
  obtain ⟨A_2, c_2, rfl, -⟩ := Rep.slice_form hu2.rd
  have zz102 : w101.heap.size ≤ w102.heap.size := hb2.size
  have hB2 := hB1.trans (hb2.mono (show w.heap.size ≤ _ by omega))
  replace HL0 := Lib.hid (Rep.below (R := HoldsR) HL0.out hb2 (by omega))
  have H2 := Lib.hid hu2
  go_wp2_with fail
  refine (specStored_any _ _ l0 w102 hl0 H2.out.rd (by omega)).mono ?_
  rintro e w103 ⟨rfl, hb3⟩
  have zz103 : w102.heap.size ≤ w103.heap.size := hb3.size
  have hB3 := hB2.trans (hb3.mono (show w.heap.size ≤ _ by omega))
  replace HL0 := Lib.hid (Rep.below (R := HoldsR) HL0.out hb3 (by omega))
  replace H2 := Lib.hid (H2.out.below hb3 (by omega))
  clear H2
  go_wp2_with fail
  refine (toHolds_any w.heap.size _ l0 w103 hl0 HL0.out (by omega)).mono ?_
  rintro e w104 ⟨u_4, rfl, hu4, hb4⟩
  obtain ⟨A_4, c_4, rfl, -⟩ := Rep.slice_form hu4.rd
  have zz104 : w103.heap.size ≤ w104.heap.size := hb4.size
  have hB4 := hB3.trans (hb4.mono (show w.heap.size ≤ _ by omega))
  replace HL0 := Lib.hid (Rep.below (R := HoldsR) HL0.out hb4 (by omega))
  have H4 := Lib.hid hu4
  go_wp2_with fail
  refine (implStored_any _ _ l0 w104 (HHD.out.below hB4 (Nat.le_refl _)) hl0 H4.out.rd (by omega)).mono ?_
  rintro e w105 ⟨rfl, hb5⟩
  have zz105 : w104.heap.size ≤ w105.heap.size := hb5.size
  have hB5 := hB4.trans (hb5.mono (show w.heap.size ≤ _ by omega))
  replace HL0 := Lib.hid (Rep.below (R := HoldsR) HL0.out hb5 (by omega))
  replace H4 := Lib.hid (H4.out.below hb5 (by omega))
  generalize storedL l0 = res
  go_wp2_with fail
  refine (toHolds_any w.heap.size _ l0 w105 hl0 HL0.out (by omega)).mono ?_
  rintro e w106 ⟨u_6, rfl, hu6, hb6⟩
  obtain ⟨A_6, c_6, rfl, -⟩ := Rep.slice_form hu6.rd
  have zz106 : w105.heap.size ≤ w106.heap.size := hb6.size
  have hB6 := hB5.trans (hb6.mono (show w.heap.size ≤ _ by omega))
  replace HL0 := Lib.hid (Rep.below (R := HoldsR) HL0.out hb6 (by omega))
  replace H4 := Lib.hid (H4.out.below hb6 (by omega))
  have HE := Lib.hid hu6
  go_wp2_with fail
  refine (eqHolds_any _ _ _ _ l0 w106 (by omega) H4.out.rd HE.out.rd (by omega) (by omega)).mono ?_
  rintro e w107 ⟨rfl, hb7⟩
  have zz107 : w106.heap.size ≤ w107.heap.size := hb7.size
  have hB7 := hB6.trans (hb7.mono (show w.heap.size ≤ _ by omega))
  replace HL0 := Lib.hid (Rep.below (R := HoldsR) HL0.out hb7 (by omega))
  replace H4 := Lib.hid (H4.out.below hb7 (by omega))
  replace HE := Lib.hid (HE.out.below hb7 (by omega))
  clear HE
  go_wp2
  go_ret
  exact ⟨rfl, hB7⟩

set_option maxRecDepth 100000 in
theorem t0 : (Tryd.prog.globals[0]?).map (·.type) = some 43 := by kernel_rfl
set_option maxRecDepth 100000 in
theorem g0 : Tryd.prog.globalNamed "loop.example/g00735/impl.errNotMoney" = some 0 := by kernel_rfl
set_option maxRecDepth 100000 in
theorem cellsE : Tryd.prog.cellsOf 106 = 1 := by kernel_rfl
set_option maxRecDepth 100000 in
theorem cellsS : Tryd.prog.cellsOf 9 = 1 := by kernel_rfl
set_option maxRecDepth 100000 in
theorem star : "*" ++ "errors.errorString" = "*errors.errorString" := by decide
set_option maxRecDepth 100000 in
theorem rowE (u : TypeId) (h : Tryd.prog.typeName? 3 u = some "*errors.errorString") : u = 84 :=
  typeName_ptr_named (nm := "errors.errorString") (by rw [star]; kernel_rfl) (by kernel_rfl) (by decide) u (by rw [star]; exact h)
set_option maxRecDepth 100000 in
theorem gH : Tryd.prog.globalNamed "errors.errorType" = some 1 := by kernel_rfl
set_option maxRecDepth 100000 in
theorem rtH : (Tryd.prog.cutTypes.find? (·.1 == "internal/reflectlite.rtype")).map (·.2) = some 71 := by kernel_rfl
set_option maxRecDepth 100000 in
theorem oneH : ((List.range Tryd.prog.types.size).filter fun t => Tryd.prog.rowNamed t [101, 114, 114, 111, 114]) = [43] := by kernel_rfl
set_option maxRecDepth 100000 in
theorem handle_of {W : World} (h : handlesMet Tryd.prog [("errors.errorType", Rows.laid_errors_errorType)] W) : W.cell? ⟨1, 0, none⟩ = some (.iface 71 (.agg #[.pointer (some ⟨2, 43, none⟩)])) := by
  obtain ⟨name, u, ty, e1, e2, e3, e4, e5⟩ := h _ (List.mem_singleton.2 rfl)
  have en : name = [101, 114, 114, 111, 114] := (Option.some.inj e1).symm
  subst en
  obtain rfl := Option.some.inj (rtH.symm.trans e2)
  have hm : ty ∈ (List.range Tryd.prog.types.size).filter fun t => Tryd.prog.rowNamed t [101, 114, 114, 111, 114] := List.mem_filter.2 ⟨List.mem_range.2 e3, e4⟩
  rw [oneH] at hm
  obtain rfl := List.mem_singleton.1 hm
  have hh : typeHandle Tryd.prog 43 = .pointer (some ⟨2, 43, none⟩) := by kernel_rfl
  rw [hh] at e5
  simpa using World.var?_cell gH e5 0

set_option maxRecDepth 100000 in
theorem laidOut : laidOutB Tryd.prog = true := by kernel_rfl
set_option maxRecDepth 100000 in
theorem rowed : allRowed Tryd.prog Tryd.f3.params.toList = true := by kernel_rfl
set_option maxRecDepth 100000 in
theorem resT : Tryd.f3.resultTypes = #[4] := by kernel_rfl
set_option maxRecDepth 100000 in
theorem door_met (os : Os) (args : Array Value) : laidMetH Tryd.prog Rows.fnExactStoredRow.laid ((World.doorLaid Tryd.prog 400 os).forCall (fun _ _ => 0) ⟨#[], args, []⟩).memory :=
  laidMetH_of_parts3 (fuel := 8) (laidMet_of_run' 8 (by kernel_rfl) (by kernel_rfl)) (by kernel_rfl) (by kernel_rfl)

set_option maxRecDepth 100000 in
theorem lifted (os : Os) (started : os.Started) (H : Type) (enc : TypeId × Value → H) :
    ReturnsInHanded {} Tryd.checked os 3 .any (fun w args => (Rows.fnExactStoredSpec.pre enc Tryd.prog Tryd.f3 [] false w args ∧ laidMetH Tryd.prog Rows.fnExactStoredRow.laid w) ∧ sizedMet enc Tryd.prog Tryd.f3 (OpenSpec.ofChange Rows.fnExactStoredSpec) false w args)
      (Rows.fnExactStoredSpec.post enc Tryd.prog Tryd.f3 false true false false) := by
  refine returnsInHanded_of_change_and (C := Tryd.checked) (X := fun w _ => laidMetH Tryd.prog Rows.fnExactStoredRow.laid w) (fun _ _ _ hh h => h.of_heap hh) own started (by kernel_rfl) Tryd.func3
    (ChangeSpec.witness_shaped (enc := enc) (C := Tryd.checked) (os := os) (X := fun w _ => laidMetH Tryd.prog Rows.fnExactStoredRow.laid w) false (World.doorLaid Tryd.prog 400 os) #[.slice none 0 0] 8 rfl (World.shaped_of_RefB (by kernel_rfl) (by kernel_rfl)) (by kernel_rfl) (by kernel_rfl) (by kernel_rfl) (door_met os _)) ?_
  intro W base args ds gs before hval0 hW _ _ hL0 _
  have hval : ∀ (j : Nat) t v, Tryd.f3.params[j]? = some t → args[j]? = some v → Value.okWide Tryd.prog W .any base t v := hval0
  have hW' := hW
  obtain ⟨p, q, hA0, hV, rfl, hfz, hnd⟩ := hW
  have hA : DataW.TrodAll enc Tryd.prog W 0 (fun _ => true) true Tryd.f3.params.toList args.toList ds p := hA0
  rw [Tryd.params3] at hA hval
  have hh := handle_of hL0.2
  have hL : laidMet Tryd.prog [("loop.example/g00735/impl.errNotMoney", Rows.laid_loop_example_g00735_impl_errNotMoney)] W := hL0.1
  obtain ⟨b0, s0, hv0, _, _, _⟩ := laid_sentinel hL g0 t0 Tryd.underlying43 rowE Tryd.underlying84 Tryd.underlying106 rfl rfl Tryd.underlying9 cellsE cellsS
  have hc0 : W.cell? ⟨0, 0, none⟩ = some (.iface 84 (.pointer (some b0))) := by simpa using World.var?_cell g0 hv0 0
  have hlt0 : 0 < W.heap.size := by
    rcases Nat.lt_or_ge 0 W.heap.size with h | h
    · exact h
    · simp [World.cell?, Array.getElem?_eq_none h] at hc0
  obtain ⟨v0, vs0, d0, ds0, p0, q0, hargs, rfl, rfl, h0, r0⟩ := trodAll_cons hA
  obtain ⟨rfl, rfl, rfl⟩ := trodAll_nil r0
  obtain rfl : args = #[v0] := by cases args; simp_all
  obtain ⟨rfl, rfl⟩ := hV.unique (vars_read1 enc g0 t0 Tryd.underlying43 hv0 trivial _)
  obtain ⟨l0, w0, z0, y0⟩ := open_holds (hval 0 22 v0 rfl rfl) h0
  clear hA0 hval0
  refine (walk W _ hc0 hh _ _ w0 z0 y0).mono fun e W' ⟨he, hg⟩ => ?_
  subst he
  exact ⟨_, rfl, post_true laidOut rowed hW' rfl resT Tryd.underlying4 hg (vars_read1 enc g0 t0 Tryd.underlying43 (var?_below hg g0 hlt0 hv0) trivial _)⟩

set_option maxRecDepth 100000 in
theorem over : Rows.fnExactStoredRow.holds Tryd.pinned (OpenSpec.ofChange Rows.fnExactStoredSpec) :=
  OpenClaim.holds_of_wide 3 Tryd.f3 rfl rfl rfl rfl rfl rfl rfl ⟨rfl, rfl, rfl, rfl, rfl⟩ rfl rfl rfl rfl rfl (by kernel_rfl) Tryd.func3 (by kernel_rfl)
    (of_decide_eq_true (by kernel_rfl)) (by unfold Func.isWrapper; first | (rw [if_pos (by decide +kernel)]; kernel_rfl) | (rw [if_neg (by decide +kernel)]; exact ⟨rfl, rfl⟩))
    (fun os started H enc _ => lifted os started H enc)

set_option maxRecDepth 100000 in
theorem said : Rows.FnExactStoredSaid :=
  over

set_option maxRecDepth 100000 in
theorem plain (f : FuncId) (fn : Func) (hf : Tryd.pinned.checked.prog.funcNamed "loop.example/g00735/laws.FnExactStored" = some f) (hfn : Tryd.pinned.checked.prog.funcs[f]? = some fn) :
    Rows.fnExactStoredCard.stood.looks = Tryd.pinned.checked.prog.looks [] ∧ ∀ (j : Nat) t, fn.params[j]? = some t → Tryd.pinned.checked.prog.wantsStandIn t = false := by
  obtain rfl : f = 3 := Option.some.inj ((show Tryd.prog.funcNamed "loop.example/g00735/laws.FnExactStored" = some 3 by kernel_rfl).symm.trans hf) |>.symm
  obtain rfl : fn = Tryd.f3 := (Option.some.inj (Tryd.func3.symm.trans hfn)).symm
  refine ⟨by kernel_rfl, fun j t ht => ?_⟩
  rw [Tryd.params3] at ht
  have hm : t ∈ [22] := by simpa using Array.mem_of_getElem? ht
  have hall : ([22].all fun u => !Tryd.prog.wantsStandIn u) = true := by kernel_rfl
  exact (show Tryd.prog.wantsStandIn t = false by simpa using List.all_eq_true.1 hall t hm)

set_option maxRecDepth 100000 in
theorem proved : Rows.FnExactStoredCardSaid :=
  Claim7.holds_tied_plain_at .later [] _ _ _ _ said (fun _ h => by cases h) (by kernel_rfl) (fun _ h => by cases h) fnExactStored_row_tie rfl ⟨rfl, rfl⟩ (by kernel_rfl) rfl plain (by kernel_rfl)
#print axioms proved
end Go.Proofs.YtnjpcbmonipaoaaDoor.fnExactStored
