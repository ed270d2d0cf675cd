/- FnExactGetField: for every argument the law answers true: the program's function returns what the reference returns; the listed package variables hold what the program's text lays (tied). -/
import Derived.Test.YtfbdcjlmbflehaaDoorPost
import Derived.Test.YtfbdcjlmbflehaaDoorOpenNB
import Derived.Test.YtfbdcjlmbflehaaDoorCards
import Derived.Test.YtfbdcjlmbflehaaDoorTie
import Derived.Stop.LaidErr
import Derived.LaidMore
import Derived.Stop.Joined
import Derived.SevenTiedAt
import Derived.WalkSmall
import Derived.Lib.LaidTab
import Derived.Lib.ItoaNum
import Derived.Test.YtfbdcjlmbflehaaDoorNumsB
import Derived.Test.YtfbdcjlmbflehaaDoorGetSpec
import Derived.Test.YtfbdcjlmbflehaaDoorDoorA
namespace Go.Proofs.YtfbdcjlmbflehaaDoor.fnExactGetField
open Go.ChangeShapes Go.WideShapes Go.ChangeAt Go.RowKit
open Go.WideMaps Go.WideElems
open Go.ChangeMaps (open_string shut_string)
set_option linter.unusedVariables false

set_option maxRecDepth 100000 in
theorem walk (w : World) (p0 : Addr) (hc0 : w.cell? ⟨3, 0, none⟩ = some (.iface 138 (.pointer (some p0)))) (htab : Lib.TabIs Tryd.prog w "internal/strconv.uint64pow10" .u64 Lib.pow10Tab) (a0 : Value) (a1 : Int) (a2 : Int) (l0 : List Int) (w0 : rd .u8 w.heap.size w a0 l0) (y0 : isBytes l0) (w1 : (Lit.int .i64 a1).wf = true) (w2 : (Lit.int .i64 a2).wf = true) :
    Calls Tryd.prog 9 #[a0, .int .i64 a1, .int .i64 a2] w fun e w' => e = .returned (.bool true) ∧ Below w.heap.size w w' := by
  obtain ⟨A, c, hform, hlc⟩ := w0.form
  have hbd := (bounds_i64 w1).2
  have hg : 3 < w.heap.size := by
    rcases Nat.lt_or_ge 3 w.heap.size with h | h
    · exact h
    · simp [World.cell?, Array.getElem?_eq_none h] at hc0
  by_cases hlen : (1048576 : Int) < (l0.length : Int)
  · subst hform
    clear w0 hc0 htab w1 w2
    go_enter Tryd.func9, Tryd.ntmps9
    go_wp2
    go_ret
    exact ⟨rfl, Below.refl _ _⟩
  have hn : l0.length ≤ 1048576 := by omega
  have hL : l0.length ≤ 4611686018427387904 := by omega
  have A0 := Lib.hid w0
  have Y0 := Lib.hid y0
  have HC : Hid (∀ w', Below w.heap.size w w' → w'.cell? ⟨3, 0, none⟩ = some (.iface 138 (.pointer (some p0)))) := Lib.hid fun w' hb => (hb.cell (p := ⟨3, 0, none⟩) hg).trans hc0
  have HR : Hid (∃ s x b, getRes l0 a1 a2 = .returned (.tuple #[.string s, .int .i64 x, .bool b])) := Lib.hid (by unfold getRes; split <;> exact ⟨_, _, _, rfl⟩)
  obtain ⟨rs, rx, rb, hres⟩ := HR.out
  have HRR := Lib.hid hres
  subst hform
  clear w0 y0 w1 w2 hc0 htab hres HR
  go_enter Tryd.func9, Tryd.ntmps9
  go_wp2_with fail
  refine (toBytes_any _ _ l0 w hn A0.out (by omega)).mono ?_
  rintro e w1 ⟨uU1, rfl, hU1, hb1⟩
  have z1 := hb1.size
  have hB1 := hb1
  replace A0 := Lib.hid (A0.out.below hb1 (by omega))
  have U1 := Lib.hid hU1
  clear hU1
  go_wp2_with fail
  refine (specGetField_any _ _ l0 a1 a2 w1 hn hbd Y0.out U1.out.rd (by omega)).mono ?_
  rintro e w2 ⟨he1, hb2⟩
  rw [HRR.out] at he1
  subst he1
  have z2 := hb2.size
  have hB2 := hB1.trans (hb2.mono hB1.size)
  replace A0 := Lib.hid (A0.out.below hb2 (by omega))
  replace U1 := Lib.hid (U1.out.below hb2 (by omega))
  go_wp2_with fail
  refine (toBytes_any _ _ l0 w2 hn A0.out (by omega)).mono ?_
  rintro e w3 ⟨uX0, rfl, hX0, hb3⟩
  have z3 := hb3.size
  have hB3 := hB2.trans (hb3.mono hB2.size)
  replace A0 := Lib.hid (A0.out.below hb3 (by omega))
  replace U1 := Lib.hid (U1.out.below hb3 (by omega))
  have X0 := Lib.hid hX0
  clear hX0
  go_wp2_with fail
  refine (implGetField_any _ _ l0 a1 a2 w3 p0 (by omega) (HC.out _ hB3) (by omega) hbd Y0.out X0.out.rd (by omega)).mono ?_
  rintro e w4 ⟨he1, hb4⟩
  rw [HRR.out] at he1
  subst he1
  have z4 := hb4.size
  have hB4 := hB3.trans (hb4.mono hB3.size)
  replace A0 := Lib.hid (A0.out.below hb4 (by omega))
  replace U1 := Lib.hid (U1.out.below hb4 (by omega))
  replace X0 := Lib.hid (X0.out.below hb4 (by omega))
  go_wp2_with fail
  refine (toBytes_any _ _ l0 w4 hn A0.out (by omega)).mono ?_
  rintro e w5 ⟨uX1, rfl, hX1, hb5⟩
  have z5 := hb5.size
  have hB5 := hB4.trans (hb5.mono hB4.size)
  replace A0 := Lib.hid (A0.out.below hb5 (by omega))
  replace U1 := Lib.hid (U1.out.below hb5 (by omega))
  replace X0 := Lib.hid (X0.out.below hb5 (by omega))
  have X1 := Lib.hid hX1
  clear hX1
  go_wp2_with fail
  refine (eqBytes_any _ _ _ _ l0 w5 hL X0.out.rd X1.out.rd).mono ?_
  rintro e w6 ⟨rfl, hb6⟩
  have z6 := hb6.size
  have hB6 := hB5.trans (hb6.mono hB5.size)
  replace A0 := Lib.hid (A0.out.below hb6 (by omega))
  replace U1 := Lib.hid (U1.out.below hb6 (by omega))
  replace X0 := Lib.hid (X0.out.below hb6 (by omega))
  replace X1 := Lib.hid (X1.out.below hb6 (by omega))
  go_wp2
  go_ret
  exact ⟨rfl, hB6⟩

open Go.Proofs.YtfbdcjlmbflehaaDoor.doora
set_option maxRecDepth 100000 in
theorem rowed : allRowed Tryd.prog Tryd.f9.params.toList = true := by kernel_rfl
set_option maxRecDepth 100000 in
theorem resT : Tryd.f9.resultTypes = #[4] := by kernel_rfl
set_option maxRecDepth 100000 in
theorem door_met (os : Os) (args : Array Value) : laidMetH Tryd.prog Rows.fnExactGetFieldRow.laid ((World.doorLaid Tryd.prog 400 os).forCall (fun _ _ => 0) ⟨#[], args, []⟩).memory := met os args

set_option maxRecDepth 100000 in
theorem lifted (os : Os) (started : os.Started) (H : Type) (enc : TypeId × Value → H) :
    ReturnsInHanded {} Tryd.checked os 9 .any (fun w args => (Rows.fnExactGetFieldSpec.pre enc Tryd.prog Tryd.f9 [] false w args ∧ laidMetH Tryd.prog Rows.fnExactGetFieldRow.laid w) ∧ sizedMet enc Tryd.prog Tryd.f9 (OpenSpec.ofChange Rows.fnExactGetFieldSpec) false w args)
      (Rows.fnExactGetFieldSpec.post enc Tryd.prog Tryd.f9 false true false false) := by
  refine returnsInHanded_of_change_and (C := Tryd.checked) (X := fun w _ => laidMetH Tryd.prog Rows.fnExactGetFieldRow.laid w) (fun _ _ _ hh h => h.of_heap hh) own started (by kernel_rfl) Tryd.func9
    (ChangeSpec.witness_shaped (enc := enc) (C := Tryd.checked) (os := os) (X := fun w _ => laidMetH Tryd.prog Rows.fnExactGetFieldRow.laid w) false (World.doorLaid Tryd.prog 400 os) #[.slice none 0 0, .int .i64 0, .int .i64 0] 8 rfl (shaped os _) (by kernel_rfl) (by kernel_rfl) (by kernel_rfl) (door_met os _)) ?_
  intro W base args ds gs before hval0 hW _ _ hL0 _
  have hval : ∀ (j : Nat) t v, Tryd.f9.params[j]? = some t → args[j]? = some v → Value.okWide Tryd.prog W .any base t v := hval0
  have hW' := hW
  obtain ⟨p, q, hA0, hV, rfl, hfz, hnd⟩ := hW
  have hA : DataW.TrodAll enc Tryd.prog W 0 (fun _ => true) true Tryd.f9.params.toList args.toList ds p := hA0
  rw [Tryd.params9] at hA hval
  have hL := hL0
  rw [MakeChecks.laidMetH_plain _ _ _ (by kernel_rfl)] at hL
  obtain ⟨b0, s0, hv0, _, _, _⟩ := laid_sentinel hL.tail.tail.tail g0 t0 Tryd.underlying80 rowE Tryd.underlying138 Tryd.underlying152 rfl rfl Tryd.underlying9 cellsE cellsS
  have hc0 : W.cell? ⟨3, 0, none⟩ = some (.iface 138 (.pointer (some b0))) := by simpa using World.var?_cell g0 hv0 0
  have hlt0 : 3 < W.heap.size := by
    rcases Nat.lt_or_ge 3 W.heap.size with h | h
    · exact h
    · simp [World.cell?, Array.getElem?_eq_none h] at hc0
  have hT : laidMet Tryd.prog (("internal/strconv.uint64pow10", Lib.tabData .u64 Lib.pow10Tab) :: [("loop.example/g00735/impl.errNotDigits", Rows.laid_loop_example_g00735_impl_errNotDigits)]) W := by rw [← datP]; exact hL.tail.tail
  have htab : Lib.TabIs Tryd.prog W "internal/strconv.uint64pow10" .u64 Lib.pow10Tab := Lib.tabIs_of_head (rest := _) gP tP Tryd.underlying132 Tryd.underlying99 cellsU cellsA hT
  obtain ⟨v0, vs0, d0, ds0, p0, q0, hargs, rfl, rfl, h0, r0⟩ := trodAll_cons hA
  obtain ⟨v1, vs1, d1, ds1, p1, q1, rfl, rfl, rfl, h1, r1⟩ := trodAll_cons r0
  obtain ⟨v2, vs2, d2, ds2, p2, q2, rfl, rfl, rfl, h2, r2⟩ := trodAll_cons r1
  obtain ⟨rfl, rfl, rfl⟩ := trodAll_nil r2
  obtain rfl : args = #[v0, v1, v2] := by cases args; simp_all
  obtain ⟨rfl, rfl⟩ := hV.unique (vars_read1 enc g0 t0 Tryd.underlying80 hv0 trivial _)
  obtain ⟨l0, w0, y0⟩ := open_rdBytes (hval 0 22 v0 rfl rfl) h0
  obtain ⟨a1, rfl, rfl, rfl, w1⟩ := open_int Tryd.underlying3 (hval 1 3 v1 rfl rfl) h1
  obtain ⟨a2, rfl, rfl, rfl, w2⟩ := open_int Tryd.underlying3 (hval 2 3 v2 rfl rfl) h2
  clear hA0 hval0
  refine (walk W _ hc0 htab _ _ _ _ w0 y0 w1 w2).mono fun e W' ⟨he, hg⟩ => ?_
  subst he
  exact ⟨_, rfl, post_true laidOut rowed hW' rfl resT Tryd.underlying4 hg (vars_read1 enc g0 t0 Tryd.underlying80 (var?_below hg g0 hlt0 hv0) trivial _)⟩

set_option maxRecDepth 100000 in
theorem over : Rows.fnExactGetFieldRow.holds Tryd.pinned (OpenSpec.ofChange Rows.fnExactGetFieldSpec) :=
  OpenClaim.holds_of_wide 9 Tryd.f9 rfl rfl rfl rfl rfl rfl rfl ⟨rfl, rfl, rfl, rfl, rfl⟩ rfl rfl rfl rfl rfl (by kernel_rfl) Tryd.func9 (by kernel_rfl)
    (of_decide_eq_true (by kernel_rfl)) (by unfold Func.isWrapper; first | (rw [if_pos (by decide +kernel)]; kernel_rfl) | (rw [if_neg (by decide +kernel)]; exact ⟨rfl, rfl⟩))
    (fun os started H enc _ => lifted os started H enc)

set_option maxRecDepth 100000 in
theorem said : Rows.FnExactGetFieldSaid :=
  over

set_option maxRecDepth 100000 in
theorem plain (f : FuncId) (fn : Func) (hf : Tryd.pinned.checked.prog.funcNamed "loop.example/g00735/laws.FnExactGetField" = some f) (hfn : Tryd.pinned.checked.prog.funcs[f]? = some fn) :
    Rows.fnExactGetFieldCard.stood.looks = Tryd.pinned.checked.prog.looks [] ∧ ∀ (j : Nat) t, fn.params[j]? = some t → Tryd.pinned.checked.prog.wantsStandIn t = false := by
  obtain rfl : f = 9 := Option.some.inj ((show Tryd.prog.funcNamed "loop.example/g00735/laws.FnExactGetField" = some 9 by kernel_rfl).symm.trans hf) |>.symm
  obtain rfl : fn = Tryd.f9 := (Option.some.inj (Tryd.func9.symm.trans hfn)).symm
  refine ⟨looks, fun j t ht => ?_⟩
  rw [Tryd.params9] at ht
  have hm : t ∈ [22, 3, 3] := by simpa using Array.mem_of_getElem? ht
  have hall : ([22, 3, 3].all fun u => !Tryd.prog.wantsStandIn u) = true := by kernel_rfl
  exact (show Tryd.prog.wantsStandIn t = false by simpa using List.all_eq_true.1 hall t hm)

set_option maxRecDepth 100000 in
theorem proved : Rows.FnExactGetFieldCardSaid :=
  Claim7.holds_tied_plain_at .later [] _ _ _ _ said (fun _ h => by cases h) (by kernel_rfl) (fun _ h => by cases h) fnExactGetField_row_tie rfl ⟨rfl, rfl⟩ mainIs rfl plain (by kernel_rfl)
#print axioms proved
end Go.Proofs.YtfbdcjlmbflehaaDoor.fnExactGetField
