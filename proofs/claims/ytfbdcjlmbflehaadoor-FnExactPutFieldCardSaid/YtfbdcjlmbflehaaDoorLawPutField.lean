/- FnExactPutField: for every argument the law answers true: the program's function returns what the reference returns; the listed package variables hold what the program's text lays (tied). -/
import Derived.Test.YtfbdcjlmbflehaaDoorPost
import Derived.Test.YtfbdcjlmbflehaaDoorCards
import Derived.Test.YtfbdcjlmbflehaaDoorTie
import Derived.Stop.LaidErr
import Derived.LaidMore
import Derived.Stop.Joined
import Derived.SevenTiedAt
import Derived.WalkSmall
import Derived.Lib.LaidTab
import Derived.Lib.ItoaNum
import Derived.Test.YtfbdcjlmbflehaaDoorNumsB
import Derived.Test.YtfbdcjlmbflehaaDoorPutImpl
import Derived.Test.YtfbdcjlmbflehaaDoorDoorA
namespace Go.Proofs.YtfbdcjlmbflehaaDoor.fnExactPutField
open Go.ChangeShapes Go.WideShapes Go.ChangeAt Go.RowKit
open Go.WideMaps Go.WideElems
open Go.ChangeMaps (open_string shut_string)
set_option linter.unusedVariables false

set_option maxRecDepth 100000 in
theorem walk (w : World) (p0 : Addr) (hc0 : w.cell? ⟨3, 0, none⟩ = some (.iface 138 (.pointer (some p0)))) (htab : Lib.TabIs Tryd.prog w "internal/strconv.uint64pow10" .u64 Lib.pow10Tab) (a0 : Int) (a1 : ByteArray) (w0 : (Lit.int .i64 a0).wf = true) (w1 : a1.size ≤ maxLen) :
    Calls Tryd.prog 8 #[.int .i64 a0, .string a1] w fun e w' => e = .returned (.bool true) ∧ Below w.heap.size w w' := by
  by_cases hlen : (1048576 : Int) < (a1.size : Int)
  · clear hc0 htab w0
    go_enter Tryd.func8, Tryd.ntmps8
    go_wp2
    go_ret
    exact ⟨rfl, Below.refl _ _⟩
  have hs : a1.size ≤ 1048576 := by omega
  have hL : (putFL a0 a1).length ≤ 4611686018427387904 := by have := putFL_len a0 a1 hs; omega
  have hg := tab_lt htab
  have HT : Hid (∀ w', Below w.heap.size w w' → Lib.TabIs Tryd.prog w' "internal/strconv.uint64pow10" .u64 Lib.pow10Tab) := Lib.hid fun w' h => var?_below h (by kernel_rfl) hg htab
  clear hc0 htab w0 w1
  go_enter Tryd.func8, Tryd.ntmps8
  go_wp2_with fail
  refine (specPutField_any a0 a1 w (by omega)).mono ?_
  rintro e w1 ⟨v1, rfl, hU1, hb1⟩
  have z1 := hb1.size
  have hB1 := hb1
  have U1 := Lib.hid hU1
  clear hU1
  go_wp2_with fail
  refine (implPutField_any a0 a1 w1 (by omega) (by omega) (HT.out _ hB1)).mono ?_
  rintro e w2 ⟨v2, rfl, hU2, hb2⟩
  have z2 := hb2.size
  have hB2 := hB1.trans (hb2.mono hB1.size)
  replace U1 := Lib.hid (U1.out.below hb2 (by omega))
  have U2 := Lib.hid hU2
  clear hU2
  go_wp2_with fail
  refine (eqBytes_any _ _ _ _ _ w2 hL U2.out.rd U1.out.rd).mono ?_
  rintro e w3 ⟨rfl, hb3⟩
  have z3 := hb3.size
  have hB3 := hB2.trans (hb3.mono hB2.size)
  replace U1 := Lib.hid (U1.out.below hb3 (by omega))
  replace U2 := Lib.hid (U2.out.below hb3 (by omega))
  go_wp2_with fail
  refine (markBytes_any _ _ _ _ 1 w3 hL (by decide) (by decide) U2.out).mono ?_
  rintro e w4 ⟨rfl, hM2, hg4⟩
  have z4 := hg4.size
  have hL4 := below_of_grown (B := w.heap.size) hg4 (by omega) (fun k hk => by have := U2.out.blk k hk; omega)
  have hB4 := hB3.trans hL4
  replace U1 := Lib.hid (U1.out.grown hg4 (by omega) (fun k hk => by have := U2.out.blk k hk; omega))
  clear U2
  have M2 := Lib.hid hM2
  clear hM2
  go_wp2_with fail
  refine (heldBytes_any _ _ _ 1 w4 hL (by decide) (by decide) M2.out.rd).mono ?_
  rintro e w5 ⟨rfl, hb5⟩
  have z5 := hb5.size
  have hB5 := hB4.trans (hb5.mono hB4.size)
  replace U1 := Lib.hid (U1.out.below hb5 (by omega))
  replace M2 := Lib.hid (M2.out.below hb5 (by omega))
  go_wp2_with fail
  refine (implPutField_any a0 a1 w5 (by omega) (by omega) (HT.out _ hB5)).mono ?_
  rintro e w6 ⟨v3, rfl, hU3, hb6⟩
  have z6 := hb6.size
  have hB6 := hB5.trans (hb6.mono hB5.size)
  replace U1 := Lib.hid (U1.out.below hb6 (by omega))
  replace M2 := Lib.hid (M2.out.below hb6 (by omega))
  have U3 := Lib.hid hU3
  clear hU3
  go_wp2_with fail
  refine (eqBytes_any _ _ _ _ _ w6 hL U3.out.rd U1.out.rd).mono ?_
  rintro e w7 ⟨rfl, hb7⟩
  have z7 := hb7.size
  have hB7 := hB6.trans (hb7.mono hB6.size)
  replace U1 := Lib.hid (U1.out.below hb7 (by omega))
  replace M2 := Lib.hid (M2.out.below hb7 (by omega))
  replace U3 := Lib.hid (U3.out.below hb7 (by omega))
  go_wp2_with fail
  refine (heldBytes_any _ _ _ 1 w7 hL (by decide) (by decide) M2.out.rd).mono ?_
  rintro e w8 ⟨rfl, hb8⟩
  have z8 := hb8.size
  have hB8 := hB7.trans (hb8.mono hB7.size)
  replace U1 := Lib.hid (U1.out.below hb8 (by omega))
  replace M2 := Lib.hid (M2.out.below hb8 (by omega))
  replace U3 := Lib.hid (U3.out.below hb8 (by omega))
  go_wp2
  go_ret
  exact ⟨rfl, hB8⟩

open Go.Proofs.YtfbdcjlmbflehaaDoor.doora
set_option maxRecDepth 100000 in
theorem rowed : allRowed Tryd.prog Tryd.f8.params.toList = true := by kernel_rfl
set_option maxRecDepth 100000 in
theorem resT : Tryd.f8.resultTypes = #[4] := by kernel_rfl
set_option maxRecDepth 100000 in
theorem door_met (os : Os) (args : Array Value) : laidMetH Tryd.prog Rows.fnExactPutFieldRow.laid ((World.doorLaid Tryd.prog 400 os).forCall (fun _ _ => 0) ⟨#[], args, []⟩).memory := met os args

set_option maxRecDepth 100000 in
theorem lifted (os : Os) (started : os.Started) (H : Type) (enc : TypeId × Value → H) :
    ReturnsInHanded {} Tryd.checked os 8 .any (fun w args => (Rows.fnExactPutFieldSpec.pre enc Tryd.prog Tryd.f8 [] false w args ∧ laidMetH Tryd.prog Rows.fnExactPutFieldRow.laid w) ∧ sizedMet enc Tryd.prog Tryd.f8 (OpenSpec.ofChange Rows.fnExactPutFieldSpec) false w args)
      (Rows.fnExactPutFieldSpec.post enc Tryd.prog Tryd.f8 false true false false) := by
  refine returnsInHanded_of_change_and (C := Tryd.checked) (X := fun w _ => laidMetH Tryd.prog Rows.fnExactPutFieldRow.laid w) (fun _ _ _ hh h => h.of_heap hh) own started (by kernel_rfl) Tryd.func8
    (ChangeSpec.witness_shaped (enc := enc) (C := Tryd.checked) (os := os) (X := fun w _ => laidMetH Tryd.prog Rows.fnExactPutFieldRow.laid w) false (World.doorLaid Tryd.prog 400 os) #[.int .i64 0, .string ByteArray.empty] 8 rfl (shaped os _) (by kernel_rfl) (by kernel_rfl) (by kernel_rfl) (door_met os _)) ?_
  intro W base args ds gs before hval0 hW _ _ hL0 _
  have hval : ∀ (j : Nat) t v, Tryd.f8.params[j]? = some t → args[j]? = some v → Value.okWide Tryd.prog W .any base t v := hval0
  have hW' := hW
  obtain ⟨p, q, hA0, hV, rfl, hfz, hnd⟩ := hW
  have hA : DataW.TrodAll enc Tryd.prog W 0 (fun _ => true) true Tryd.f8.params.toList args.toList ds p := hA0
  rw [Tryd.params8] at hA hval
  have hL := hL0
  rw [MakeChecks.laidMetH_plain _ _ _ (by kernel_rfl)] at hL
  obtain ⟨b0, s0, hv0, _, _, _⟩ := laid_sentinel hL.tail.tail.tail g0 t0 Tryd.underlying80 rowE Tryd.underlying138 Tryd.underlying152 rfl rfl Tryd.underlying9 cellsE cellsS
  have hc0 : W.cell? ⟨3, 0, none⟩ = some (.iface 138 (.pointer (some b0))) := by simpa using World.var?_cell g0 hv0 0
  have hlt0 : 3 < W.heap.size := by
    rcases Nat.lt_or_ge 3 W.heap.size with h | h
    · exact h
    · simp [World.cell?, Array.getElem?_eq_none h] at hc0
  have hT : laidMet Tryd.prog (("internal/strconv.uint64pow10", Lib.tabData .u64 Lib.pow10Tab) :: [("loop.example/g00735/impl.errNotDigits", Rows.laid_loop_example_g00735_impl_errNotDigits)]) W := by rw [← datP]; exact hL.tail.tail
  have htab : Lib.TabIs Tryd.prog W "internal/strconv.uint64pow10" .u64 Lib.pow10Tab := Lib.tabIs_of_head (rest := _) gP tP Tryd.underlying132 Tryd.underlying99 cellsU cellsA hT
  obtain ⟨v0, vs0, d0, ds0, p0, q0, hargs, rfl, rfl, h0, r0⟩ := trodAll_cons hA
  obtain ⟨v1, vs1, d1, ds1, p1, q1, rfl, rfl, rfl, h1, r1⟩ := trodAll_cons r0
  obtain ⟨rfl, rfl, rfl⟩ := trodAll_nil r1
  obtain rfl : args = #[v0, v1] := by cases args; simp_all
  obtain ⟨rfl, rfl⟩ := hV.unique (vars_read1 enc g0 t0 Tryd.underlying80 hv0 trivial _)
  obtain ⟨a0, rfl, rfl, rfl, w0⟩ := open_int Tryd.underlying3 (hval 0 3 v0 rfl rfl) h0
  obtain ⟨a1, rfl, rfl, rfl, w1⟩ := open_string Tryd.underlying9 (hval 1 9 v1 rfl rfl) h1
  clear hA0 hval0
  refine (walk W _ hc0 htab _ _ w0 w1).mono fun e W' ⟨he, hg⟩ => ?_
  subst he
  exact ⟨_, rfl, post_true laidOut rowed hW' rfl resT Tryd.underlying4 hg (vars_read1 enc g0 t0 Tryd.underlying80 (var?_below hg g0 hlt0 hv0) trivial _)⟩

set_option maxRecDepth 100000 in
theorem over : Rows.fnExactPutFieldRow.holds Tryd.pinned (OpenSpec.ofChange Rows.fnExactPutFieldSpec) :=
  OpenClaim.holds_of_wide 8 Tryd.f8 rfl rfl rfl rfl rfl rfl rfl ⟨rfl, rfl, rfl, rfl, rfl⟩ rfl rfl rfl rfl rfl (by kernel_rfl) Tryd.func8 (by kernel_rfl)
    (of_decide_eq_true (by kernel_rfl)) (by unfold Func.isWrapper; first | (rw [if_pos (by decide +kernel)]; kernel_rfl) | (rw [if_neg (by decide +kernel)]; exact ⟨rfl, rfl⟩))
    (fun os started H enc _ => lifted os started H enc)

set_option maxRecDepth 100000 in
theorem said : Rows.FnExactPutFieldSaid :=
  over

set_option maxRecDepth 100000 in
theorem plain (f : FuncId) (fn : Func) (hf : Tryd.pinned.checked.prog.funcNamed "loop.example/g00735/laws.FnExactPutField" = some f) (hfn : Tryd.pinned.checked.prog.funcs[f]? = some fn) :
    Rows.fnExactPutFieldCard.stood.looks = Tryd.pinned.checked.prog.looks [] ∧ ∀ (j : Nat) t, fn.params[j]? = some t → Tryd.pinned.checked.prog.wantsStandIn t = false := by
  obtain rfl : f = 8 := Option.some.inj ((show Tryd.prog.funcNamed "loop.example/g00735/laws.FnExactPutField" = some 8 by kernel_rfl).symm.trans hf) |>.symm
  obtain rfl : fn = Tryd.f8 := (Option.some.inj (Tryd.func8.symm.trans hfn)).symm
  refine ⟨looks, fun j t ht => ?_⟩
  rw [Tryd.params8] at ht
  have hm : t ∈ [3, 9] := by simpa using Array.mem_of_getElem? ht
  have hall : ([3, 9].all fun u => !Tryd.prog.wantsStandIn u) = true := by kernel_rfl
  exact (show Tryd.prog.wantsStandIn t = false by simpa using List.all_eq_true.1 hall t hm)

set_option maxRecDepth 100000 in
theorem proved : Rows.FnExactPutFieldCardSaid :=
  Claim7.holds_tied_plain_at .later [] _ _ _ _ said (fun _ h => by cases h) (by kernel_rfl) (fun _ h => by cases h) fnExactPutField_row_tie rfl ⟨rfl, rfl⟩ mainIs rfl plain (by kernel_rfl)
#print axioms proved
end Go.Proofs.YtfbdcjlmbflehaaDoor.fnExactPutField
