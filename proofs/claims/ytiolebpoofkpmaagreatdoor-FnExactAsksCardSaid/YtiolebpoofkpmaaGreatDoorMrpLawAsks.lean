/- FnExactAsks: for every argument the law answers true: the program's function returns what the reference returns; the listed package variables hold what the program's text lays (tied). -/
import Derived.Test.YtiolebpoofkpmaaGreatDoorMrp1
import Derived.Test.YtiolebpoofkpmaaGreatDoorCards
import Derived.Test.YtiolebpoofkpmaaGreatDoorTie
import Derived.Stop.LaidErr
import Derived.LaidMore
import Derived.Stop.Joined
import Derived.SevenTiedAt
import Derived.WalkSmall
import Derived.Test.YtiolebpoofkpmaaGreatDoorMrp2
import Derived.Deep.DeepHandedRow
import Derived.Lay
import Derived.Test.YtiolebpoofkpmaaGreatDoorShelf
import Derived.Test.YtiolebpoofkpmaaGreatDoorMrp24
import Derived.Test.YtiolebpoofkpmaaGreatDoorMrp19
import Derived.Test.YtiolebpoofkpmaaGreatDoorMrp9
namespace Go.Proofs.YtiolebpoofkpmaaGreatDoor.fnExactAsks
open Go.ChangeShapes Go.WideShapes Go.ChangeAt Go.RowKit
open Go.WideMaps Go.WideElems
open Go.ChangeMaps (open_string shut_string)
set_option linter.unusedVariables false

set_option maxRecDepth 100000 in
theorem own : ownKnob Tryz.prog.godebug = none := by kernel_rfl

set_option maxRecDepth 100000 in
set_option maxHeartbeats 8000000 in
theorem walk (w : World) (p0 : Addr) (hc0 : w.cell? ⟨1, 0, none⟩ = some (.iface 207 (.pointer (some p0)))) (hops : opsIn w) (a0 : Value) (l0 : List Int) (w0 : rd .u8 w.heap.size w a0 l0) (y0 : isBytes l0) :
    Calls Tryz.prog 3 #[a0] w fun e w' => e = .returned (.bool true) ∧ Below w.heap.size w w' := by
  have HB0 : Hid (Below w.heap.size w w) := Lib.hid (Below.refl _ _)
  have hB0 : Below w.heap.size w w := Below.refl _ _
  obtain ⟨AA, cA, hform, -⟩ := w0.form
  subst hform
  by_cases hbig : (1048576 : Int) < (l0.length : Int)
  · clear w0
    go_enter Tryz.func3, Tryz.ntmps3
    go_wp2
    go_ret
    exact ⟨rfl, HB0.out⟩
  have hn : l0.length ≤ 1048576 := by omega
  have hL : l0.length ≤ 4611686018427387904 := by omega
  have hlt := cell_lt hc0
  obtain ⟨al, hal⟩ : ∃ al, al = asksL l0 := ⟨_, rfl⟩
  have hln : al.length ≤ 2 := by rw [hal]; exact asks_len l0
  have HSP := Lib.hid (fun hi v V hr hh => specAsks_any hi v l0 V hn y0 hr hh)
  have HIM := Lib.hid (fun hi v V (hV : Below w.heap.size w V) hr hh => implAsks_any hi v l0 V _ (hops.below hV) (Nat.lt_of_lt_of_le hlt hV.size) ((hV.cell (p := ⟨_, 0, none⟩) hlt).trans hc0) hn y0 hr hh)
  rw [← hal] at HSP HIM
  have HA := Lib.hid w0
  have HY := Lib.hid y0
  clear hc0 hops w0 y0 hal
  go_enter Tryz.func3, Tryz.ntmps3
  go_wp2_with fail
  refine (toBytes_any _ _ l0 w hn HA.out (by omega)).mono ?_
  rintro e w1 ⟨u1, rfl, hu1, hb1⟩
  obtain ⟨A1, c1, rfl, -⟩ := hu1.form
  have z1 : w.heap.size ≤ w1.heap.size := hb1.size
  have hB1 := hB0.trans (hb1.mono (show w.heap.size ≤ _ by omega))
  replace HA := Lib.hid (HA.out.below hb1 (by omega))
  have B2 := Lib.hid hu1
  go_wp2_with fail
  refine (HSP.out _ _ w1 B2.out.rd (by omega)).mono ?_
  rintro e w2 ⟨u2, rfl, hu2, hb2⟩
  obtain ⟨A2, c2, rfl, -, -⟩ := strs_rd hu2.rd
  have z2 : w1.heap.size ≤ w2.heap.size := hb2.size
  have hB2 := hB1.trans (hb2.mono (show w.heap.size ≤ _ by omega))
  replace HA := Lib.hid (HA.out.below hb2 (by omega))
  replace B2 := Lib.hid (B2.out.below hb2 (by omega))
  have HW := Lib.hid hu2
  clear B2
  go_wp2_with fail
  refine (toBytes_any _ _ l0 w2 hn HA.out (by omega)).mono ?_
  rintro e w3 ⟨u3, rfl, hu3, hb3⟩
  obtain ⟨A3, c3, rfl, -⟩ := hu3.form
  have z3 : w2.heap.size ≤ w3.heap.size := hb3.size
  have hB3 := hB2.trans (hb3.mono (show w.heap.size ≤ _ by omega))
  replace HA := Lib.hid (HA.out.below hb3 (by omega))
  replace HW := Lib.hid (HW.out.below hb3 (by omega))
  have B4 := Lib.hid hu3
  go_wp2_with fail
  refine (HIM.out _ _ w3 (HB0.out.trans (hB3.mono (by omega))) B4.out.rd (by omega)).mono ?_
  rintro e w4 ⟨u4, rfl, hu4, hb4⟩
  obtain ⟨A4, c4, rfl, -, -⟩ := strs_rd hu4.rd
  have z4 : w3.heap.size ≤ w4.heap.size := hb4.size
  have hB4 := hB3.trans (hb4.mono (show w.heap.size ≤ _ by omega))
  replace HA := Lib.hid (HA.out.below hb4 (by omega))
  replace HW := Lib.hid (HW.out.below hb4 (by omega))
  replace B4 := Lib.hid (B4.out.below hb4 (by omega))
  have HG := Lib.hid hu4
  go_wp2_with fail
  refine (eqStrs_any _ _ _ _ al w4 (by omega) HG.out.rd HW.out.rd).mono ?_
  rintro e w5 ⟨rfl, hb5⟩
  have z5 : w4.heap.size ≤ w5.heap.size := hb5.size
  have hB5 := hB4.trans (hb5.mono (show w.heap.size ≤ _ by omega))
  replace HA := Lib.hid (HA.out.below hb5 (by omega))
  replace HW := Lib.hid (HW.out.below hb5 (by omega))
  replace B4 := Lib.hid (B4.out.below hb5 (by omega))
  replace HG := Lib.hid (HG.out.below hb5 (by omega))
  go_wp2_with fail
  refine (toBytes_any _ _ l0 w5 hn HA.out (by omega)).mono ?_
  rintro e w6 ⟨u6, rfl, hu6, hb6⟩
  obtain ⟨A6, c6, rfl, -⟩ := hu6.form
  have z6 : w5.heap.size ≤ w6.heap.size := hb6.size
  have hB6 := hB5.trans (hb6.mono (show w.heap.size ≤ _ by omega))
  replace HA := Lib.hid (HA.out.below hb6 (by omega))
  replace HW := Lib.hid (HW.out.below hb6 (by omega))
  replace B4 := Lib.hid (B4.out.below hb6 (by omega))
  replace HG := Lib.hid (HG.out.below hb6 (by omega))
  have B5 := Lib.hid hu6
  go_wp2_with fail
  refine (eqBytes_any _ _ _ _ l0 w6 hL B4.out.rd B5.out.rd).mono ?_
  rintro e w7 ⟨rfl, hb7⟩
  have z7 : w6.heap.size ≤ w7.heap.size := hb7.size
  have hB7 := hB6.trans (hb7.mono (show w.heap.size ≤ _ by omega))
  replace HA := Lib.hid (HA.out.below hb7 (by omega))
  replace HW := Lib.hid (HW.out.below hb7 (by omega))
  replace B4 := Lib.hid (B4.out.below hb7 (by omega))
  replace HG := Lib.hid (HG.out.below hb7 (by omega))
  replace B5 := Lib.hid (B5.out.below hb7 (by omega))
  clear B5
  go_wp2_with fail
  refine (markBytes_any _ _ _ l0 1 w7 hL (by decide) (by decide) B4.out).mono ?_
  rintro e w8 ⟨rfl, hmk8, hg8⟩
  have ht8 := Turned.of_grown hg8 B4.out.blk
  clear hg8
  have z8 : w7.heap.size ≤ w8.heap.size := ht8.size
  have hB8 := hB7.trans (ht8.below (show w.heap.size ≤ _ by omega) (by omega))
  replace HA := Lib.hid (HA.out.turned ht8 (by omega) (by omega))
  replace HW := Lib.hid (HW.out.turned ht8 (by omega) (by omega))
  replace HG := Lib.hid (HG.out.turned ht8 (by omega) (by omega))
  clear B4
  have kk : ¬ ((1 : Int) + (l0.length : Int) < 0) := by omega
  go_wp2_with fail
  refine (eqStrs_any _ _ _ _ al w8 (by omega) HG.out.rd HW.out.rd).mono ?_
  rintro e w9 ⟨rfl, hb9⟩
  have z9 : w8.heap.size ≤ w9.heap.size := hb9.size
  have hB9 := hB8.trans (hb9.mono (show w.heap.size ≤ _ by omega))
  replace HA := Lib.hid (HA.out.below hb9 (by omega))
  replace HW := Lib.hid (HW.out.below hb9 (by omega))
  replace HG := Lib.hid (HG.out.below hb9 (by omega))
  clear kk
  go_wp2_with fail
  refine (markStrs_any _ _ _ al 1 w9 (by omega) (by decide) (by decide) HG.out (by omega)).mono ?_
  rintro e w10 ⟨rfl, hmk10, ht10⟩
  have z10 : w9.heap.size ≤ w10.heap.size := ht10.size
  have hB10 := hB9.trans (ht10.below (show w.heap.size ≤ _ by omega) (by omega))
  replace HA := Lib.hid (HA.out.turned ht10 (by omega) (by omega))
  replace HW := Lib.hid (HW.out.turned ht10 (by omega) (by omega))
  clear HG
  have HM := Lib.hid hmk10
  have kk : ¬ ((1 : Int) + (al.length : Int) < 0) := by omega
  go_wp2_with fail
  refine (heldStrs_any _ _ al.length 1 w10 (by omega) (by decide) (by decide) HM.out.rd (by omega)).mono ?_
  rintro e w11 ⟨rfl, hb11⟩
  have z11 : w10.heap.size ≤ w11.heap.size := hb11.size
  have hB11 := hB10.trans (hb11.mono (show w.heap.size ≤ _ by omega))
  replace HA := Lib.hid (HA.out.below hb11 (by omega))
  replace HW := Lib.hid (HW.out.below hb11 (by omega))
  replace HM := Lib.hid (HM.out.below hb11 (by omega))
  go_wp2_with fail
  refine (toBytes_any _ _ l0 w11 hn HA.out (by omega)).mono ?_
  rintro e w12 ⟨u12, rfl, hu12, hb12⟩
  obtain ⟨A12, c12, rfl, -⟩ := hu12.form
  have z12 : w11.heap.size ≤ w12.heap.size := hb12.size
  have hB12 := hB11.trans (hb12.mono (show w.heap.size ≤ _ by omega))
  replace HA := Lib.hid (HA.out.below hb12 (by omega))
  replace HW := Lib.hid (HW.out.below hb12 (by omega))
  replace HM := Lib.hid (HM.out.below hb12 (by omega))
  have B6 := Lib.hid hu12
  go_wp2_with fail
  refine (HIM.out _ _ w12 (HB0.out.trans (hB12.mono (by omega))) B6.out.rd (by omega)).mono ?_
  rintro e w13 ⟨u13, rfl, hu13, hb13⟩
  obtain ⟨A13, c13, rfl, -, -⟩ := strs_rd hu13.rd
  have z13 : w12.heap.size ≤ w13.heap.size := hb13.size
  have hB13 := hB12.trans (hb13.mono (show w.heap.size ≤ _ by omega))
  replace HA := Lib.hid (HA.out.below hb13 (by omega))
  replace HW := Lib.hid (HW.out.below hb13 (by omega))
  replace HM := Lib.hid (HM.out.below hb13 (by omega))
  replace B6 := Lib.hid (B6.out.below hb13 (by omega))
  have HH := Lib.hid hu13
  go_wp2_with fail
  refine (eqStrs_any _ _ _ _ al w13 (by omega) HH.out.rd HW.out.rd).mono ?_
  rintro e w14 ⟨rfl, hb14⟩
  have z14 : w13.heap.size ≤ w14.heap.size := hb14.size
  have hB14 := hB13.trans (hb14.mono (show w.heap.size ≤ _ by omega))
  replace HA := Lib.hid (HA.out.below hb14 (by omega))
  replace HW := Lib.hid (HW.out.below hb14 (by omega))
  replace HM := Lib.hid (HM.out.below hb14 (by omega))
  replace B6 := Lib.hid (B6.out.below hb14 (by omega))
  replace HH := Lib.hid (HH.out.below hb14 (by omega))
  go_wp2_with fail
  refine (heldStrs_any _ _ al.length 1 w14 (by omega) (by decide) (by decide) HM.out.rd (by omega)).mono ?_
  rintro e w15 ⟨rfl, hb15⟩
  have z15 : w14.heap.size ≤ w15.heap.size := hb15.size
  have hB15 := hB14.trans (hb15.mono (show w.heap.size ≤ _ by omega))
  replace HA := Lib.hid (HA.out.below hb15 (by omega))
  replace HW := Lib.hid (HW.out.below hb15 (by omega))
  replace HM := Lib.hid (HM.out.below hb15 (by omega))
  replace B6 := Lib.hid (B6.out.below hb15 (by omega))
  replace HH := Lib.hid (HH.out.below hb15 (by omega))
  go_wp2
  go_ret
  exact ⟨rfl, (HB0.out.trans (hB15.mono (by omega)))⟩

set_option maxRecDepth 100000 in
theorem t0 : (Tryz.prog.globals[1]?).map (·.type) = some 142 := by kernel_rfl
set_option maxRecDepth 100000 in
theorem g0 : Tryz.prog.globalNamed "loop.example/g00735/impl.errNotDigits" = some 1 := by kernel_rfl
set_option maxRecDepth 100000 in
theorem cellsE : Tryz.prog.cellsOf 222 = 1 := by kernel_rfl
set_option maxRecDepth 100000 in
theorem cellsS : Tryz.prog.cellsOf 9 = 1 := by kernel_rfl
set_option maxRecDepth 100000 in
theorem star : "*" ++ "errors.errorString" = "*errors.errorString" := by decide
set_option maxRecDepth 100000 in
theorem rowE (u : TypeId) (h : Tryz.prog.typeName? 3 u = some "*errors.errorString") : u = 207 :=
  typeName_ptr_named (nm := "errors.errorString") (by rw [star]; kernel_rfl) (by kernel_rfl) (by decide) u (by rw [star]; exact h)
set_option maxRecDepth 100000 in
theorem datO : (Rows.laid_loop_example_g00735_impl_opTable : DataW Unit) = opDat := by kernel_rfl

set_option maxRecDepth 100000 in
theorem laidOut : laidOutB Tryz.prog = true := by kernel_rfl
set_option maxRecDepth 100000 in
theorem rowed : allRowed Tryz.prog Tryz.f3.params.toList = true := by kernel_rfl
set_option maxRecDepth 100000 in
theorem resT : Tryz.f3.resultTypes = #[4] := by kernel_rfl
set_option maxRecDepth 100000 in
theorem door_met (os : Os) (args : Array Value) : laidMetH Tryz.prog Rows.fnExactAsksRow.laid ((World.laidAll Tryz.prog os Rows.fnExactAsksRow.laid).forCall (fun _ _ => 0) ⟨#[], args, []⟩).memory :=
  by rw [MakeChecks.laidMetH_plain _ _ _ (by kernel_rfl)]; exact laidMet_laidAll _ (by kernel_rfl) (by kernel_rfl)

set_option maxRecDepth 100000 in
theorem lifted (os : Os) (started : os.Started) (H : Type) (enc : TypeId × Value → H) (F : Stop.Interp) :
    ReturnsInHanded {} Tryz.checked os 3 .any ((OpenSpec.ofChange Rows.fnExactAsksSpec).preRow enc Tryz.prog Tryz.f3 Rows.fnExactAsksRow.domain false Rows.fnExactAsksRow.laid)
      (((OpenSpec.ofChange Rows.fnExactAsksSpec).at F).post enc Tryz.prog Tryz.f3 false true false false) := by
  refine returnsInHanded_of_row (C := Tryz.checked) (s := OpenSpec.ofChange Rows.fnExactAsksSpec) own started (by kernel_rfl) Tryz.func3
    (ChangeSpec.witness_shaped (s := Rows.fnExactAsksSpec) (enc := enc) (C := Tryz.checked) (os := os) (X := fun w _ => laidMetH Tryz.prog Rows.fnExactAsksRow.laid w) false (World.laidAll Tryz.prog os Rows.fnExactAsksRow.laid) #[.slice none 0 0] 8 rfl (World.shaped_of_ZipB (by kernel_rfl) (by kernel_rfl)) (by kernel_rfl) (by kernel_rfl) (by kernel_rfl) (door_met os _)) ?_
  intro W base args ds gs before hval0 hW _ _ _ hL0 hsh _
  have hval : ∀ (j : Nat) t v, Tryz.f3.params[j]? = some t → args[j]? = some v → Value.okWide Tryz.prog W .any base t v := hval0
  have hW' := hW
  obtain ⟨p, q, hA0, hV, rfl, hfz, hnd⟩ := hW
  have hA : DataW.TrodAll enc Tryz.prog W 0 (fun _ => true) true Tryz.f3.params.toList args.toList ds p := hA0
  rw [Tryz.params3] at hA hval
  have hL := hL0
  rw [MakeChecks.laidMetH_plain _ _ _ (by kernel_rfl)] at hL
  obtain ⟨b0, s0, hv0, _, _, _⟩ := laid_sentinel hL.tail.tail.tail.tail g0 t0 Tryz.underlying142 rowE Tryz.underlying207 Tryz.underlying222 rfl rfl Tryz.underlying9 cellsE cellsS
  have hc0 : W.cell? ⟨1, 0, none⟩ = some (.iface 207 (.pointer (some b0))) := by simpa using World.var?_cell g0 hv0 0
  have hlt0 : 1 < W.heap.size := by
    rcases Nat.lt_or_ge 1 W.heap.size with h | h
    · exact h
    · simp [World.cell?, Array.getElem?_eq_none h] at hc0
  have hvO := ops_var (rest := _) (W := W) (by rw [← datO]; exact hL.tail.tail.tail.tail.tail)
  have hops : opsIn W := ops_in hvO
  have hltO := hops.lt
  obtain ⟨v0, vs0, d0, ds0, p0, q0, hargs, rfl, rfl, h0, r0⟩ := trodAll_cons hA
  obtain ⟨rfl, rfl, rfl⟩ := trodAll_nil r0
  obtain rfl : args = #[v0] := by cases args; simp_all
  obtain ⟨rfl, rfl⟩ := hV.unique (ops_err enc g0 t0 Tryz.underlying142 hv0 trivial (vars_ops enc _ hvO (ops_nil enc _)))
  obtain ⟨l0, w0, y0⟩ := open_rdBytes (hval 0 22 v0 rfl rfl) h0
  clear hA0 hval0
  refine (walk W _ hc0 hops _ _ w0 y0).mono fun e W' ⟨he, hg⟩ => ?_
  subst he
  exact ⟨_, rfl, post_true laidOut rowed hW' rfl resT Tryz.underlying4 hg (ops_err enc g0 t0 Tryz.underlying142 (var?_below hg g0 hlt0 hv0) trivial (vars_ops enc _ (var?_below hg gOps hltO hvO) (ops_nil enc _)))⟩

set_option maxRecDepth 100000 in
theorem over : Rows.fnExactAsksRow.holds Tryz.pinned (OpenSpec.ofChange Rows.fnExactAsksSpec) :=
  OpenClaim.holds_of_cond 3 Tryz.f3 rfl rfl rfl rfl rfl rfl rfl ⟨rfl, rfl, rfl, rfl, rfl⟩ rfl rfl rfl rfl rfl (by kernel_rfl) Tryz.func3 (by kernel_rfl)
    (of_decide_eq_true (by kernel_rfl)) (by unfold Func.isWrapper; first | (rw [if_pos (by decide +kernel)]; kernel_rfl) | (rw [if_neg (by decide +kernel)]; exact ⟨rfl, rfl⟩))
    (fun os started H enc _ F => by rw [OpenClaim.pre_eq_preRow]; exact lifted os started H enc F)

set_option maxRecDepth 100000 in
theorem said : Rows.FnExactAsksSaid :=
  over

set_option maxRecDepth 100000 in
theorem plain (f : FuncId) (fn : Func) (hf : Tryz.pinned.checked.prog.funcNamed "loop.example/g00735/laws.FnExactAsks" = some f) (hfn : Tryz.pinned.checked.prog.funcs[f]? = some fn) :
    Rows.fnExactAsksCard.stood.looks = Tryz.pinned.checked.prog.looks [] ∧ ∀ (j : Nat) t, fn.params[j]? = some t → Tryz.pinned.checked.prog.wantsStandIn t = false := by
  obtain rfl : f = 3 := Option.some.inj ((show Tryz.prog.funcNamed "loop.example/g00735/laws.FnExactAsks" = some 3 by kernel_rfl).symm.trans hf) |>.symm
  obtain rfl : fn = Tryz.f3 := (Option.some.inj (Tryz.func3.symm.trans hfn)).symm
  refine ⟨by kernel_rfl, fun j t ht => ?_⟩
  rw [Tryz.params3] at ht
  have hm : t ∈ [22] := by simpa using Array.mem_of_getElem? ht
  have hall : ([22].all fun u => !Tryz.prog.wantsStandIn u) = true := by kernel_rfl
  exact (show Tryz.prog.wantsStandIn t = false by simpa using List.all_eq_true.1 hall t hm)

set_option maxRecDepth 100000 in
theorem proved : Rows.FnExactAsksCardSaid :=
  Claim7.holds_tied_plain_at .later [] _ _ _ _ said (fun _ h => by cases h) (by kernel_rfl) (fun _ h => by cases h) fnExactAsks_row_tie rfl ⟨rfl, rfl⟩ (by kernel_rfl) rfl plain (by kernel_rfl)
#print axioms proved
end Go.Proofs.YtiolebpoofkpmaaGreatDoor.fnExactAsks
