/- FnExactPutLen: for every argument the law answers true: the program's function returns what the reference returns; the listed package variables hold what the program's text lays (tied). -/
import Derived.Test.YtdenopiailffcaaDoorPost
import Derived.Test.YtdenopiailffcaaDoorCards
import Derived.Test.YtdenopiailffcaaDoorTie
import Derived.Stop.LaidErr
import Derived.LaidMore
import Derived.Stop.Joined
import Derived.SevenTiedAt
import Derived.WalkSmall
import Derived.Lib.LaidTab
import Derived.Lib.ItoaNum
import Derived.Test.YtdenopiailffcaaDoorNumsB
import Derived.Test.YtdenopiailffcaaDoorLen
namespace Go.Proofs.YtdenopiailffcaaDoor.fnExactPutLen
open Go.ChangeShapes Go.WideShapes Go.ChangeAt Go.RowKit
open Go.WideMaps Go.WideElems
open Go.ChangeMaps (open_string shut_string)
set_option linter.unusedVariables false

theorem own : ownKnob Tryd.prog.godebug = none := by kernel_rfl

theorem walk (w : World)  (htab : Lib.TabIs Tryd.prog w "internal/strconv.uint64pow10" .u64 Lib.pow10Tab) (a0 : Int) (a1 : Int) (w0 : (Lit.int .i64 a0).wf = true) (w1 : (Lit.int .i64 a1).wf = true) :
    Calls Tryd.prog 3 #[.int .i64 a0, .int .i64 a1] w fun e w' => e = .returned (.bool true) ∧ Below w.heap.size w w' := by
  have hb0 : -9223372036854775808 ≤ a0 ∧ a0 ≤ 9223372036854775807 := bounds_i64 w0
  have hG : (putLen a0 a1).length ≤ 4611686018427387904 := by have := putLen_len a0 a1; omega
  have hg : 2 < w.heap.size := by
    unfold Lib.TabIs World.var? at htab
    rw [show Tryd.prog.globalNamed "internal/strconv.uint64pow10" = some 2 by kernel_rfl] at htab
    rcases Nat.lt_or_ge 2 w.heap.size with h | h
    · exact h
    · simp [Array.getElem?_eq_none h] at htab
  have HT0 : Hid (∀ w', Below w.heap.size w w' → Lib.TabIs Tryd.prog w' "internal/strconv.uint64pow10" .u64 Lib.pow10Tab) := Lib.hid fun w' h => var?_below h (by kernel_rfl) hg htab
  have HH0 := Lib.hid hb0
  clear htab hb0 w0 w1
  go_enter Tryd.func3, Tryd.ntmps3
  go_wp2_with fail
  refine (specPutLen_any a0 a1 w).mono ?_
  rintro e w1 ⟨v1, rfl, hU1, hb1⟩
  have z1 := hb1.size
  have hB1 := hb1
  have U1 := Lib.hid hU1
  clear hU1
  go_wp2_with fail
  refine (implPutLen_any a0 a1 w1 HH0.out.1 HH0.out.2 (HT0.out _ hB1)).mono ?_
  rintro e w2 ⟨v2, rfl, hU2, hb2⟩
  have z2 := hb2.size
  have hB2 := hB1.trans (hb2.mono hB1.size)
  replace U1 := Lib.hid (U1.out.below hb2 (by omega))
  have U2 := Lib.hid hU2
  clear hU2
  go_wp2_with fail
  refine (eqBytes_any _ _ _ _ _ w2 hG U2.out.rd U1.out.rd).mono ?_
  rintro e w3 ⟨rfl, hb3⟩
  have z3 := hb3.size
  have hB3 := hB2.trans (hb3.mono hB2.size)
  replace U1 := Lib.hid (U1.out.below hb3 (by omega))
  replace U2 := Lib.hid (U2.out.below hb3 (by omega))
  go_wp2_with fail
  refine (markBytes_any _ _ _ _ 1 w3 hG (by decide) (by decide) U2.out).mono ?_
  rintro e w4 ⟨rfl, hM2, hg4⟩
  have z4 := hg4.size
  have hL4 := below_of_grown (B := w.heap.size) hg4 (by omega) (fun k hk => by have := U2.out.blk k hk; omega)
  have hB4 := hB3.trans hL4
  replace U1 := Lib.hid (U1.out.grown hg4 (by omega) (fun k hk => by have := U2.out.blk k hk; omega))
  clear U2
  have M2 := Lib.hid hM2
  clear hM2
  go_wp2_with fail
  refine (heldBytes_any _ _ _ 1 w4 hG (by decide) (by decide) M2.out.rd).mono ?_
  rintro e w5 ⟨rfl, hb5⟩
  have z5 := hb5.size
  have hB5 := hB4.trans (hb5.mono hB4.size)
  replace U1 := Lib.hid (U1.out.below hb5 (by omega))
  replace M2 := Lib.hid (M2.out.below hb5 (by omega))
  go_wp2_with fail
  refine (implPutLen_any a0 a1 w5 HH0.out.1 HH0.out.2 (HT0.out _ hB5)).mono ?_
  rintro e w6 ⟨v3, rfl, hU3, hb6⟩
  have z6 := hb6.size
  have hB6 := hB5.trans (hb6.mono hB5.size)
  replace U1 := Lib.hid (U1.out.below hb6 (by omega))
  replace M2 := Lib.hid (M2.out.below hb6 (by omega))
  have U3 := Lib.hid hU3
  clear hU3
  go_wp2_with fail
  refine (eqBytes_any _ _ _ _ _ w6 hG U3.out.rd U1.out.rd).mono ?_
  rintro e w7 ⟨rfl, hb7⟩
  have z7 := hb7.size
  have hB7 := hB6.trans (hb7.mono hB6.size)
  replace U1 := Lib.hid (U1.out.below hb7 (by omega))
  replace M2 := Lib.hid (M2.out.below hb7 (by omega))
  replace U3 := Lib.hid (U3.out.below hb7 (by omega))
  go_wp2_with fail
  refine (heldBytes_any _ _ _ 1 w7 hG (by decide) (by decide) M2.out.rd).mono ?_
  rintro e w8 ⟨rfl, hb8⟩
  have z8 := hb8.size
  have hB8 := hB7.trans (hb8.mono hB7.size)
  replace U1 := Lib.hid (U1.out.below hb8 (by omega))
  replace M2 := Lib.hid (M2.out.below hb8 (by omega))
  replace U3 := Lib.hid (U3.out.below hb8 (by omega))
  go_wp2
  go_ret
  exact ⟨rfl, hB8⟩

theorem gP : Tryd.prog.globalNamed "internal/strconv.uint64pow10" = some 2 := by kernel_rfl
theorem tP : (Tryd.prog.globals[2]?).map (·.type) = some 81 := by kernel_rfl
theorem cellsA : Tryd.prog.cellsOf 81 = 20 := by kernel_rfl
theorem cellsU : Tryd.prog.cellsOf 67 = 1 := by kernel_rfl
theorem datP : (Rows.laid_internal_strconv_uint64pow10 : DataW Unit) = Lib.tabData .u64 Lib.pow10Tab := by kernel_rfl

theorem laidOut : laidOutB Tryd.prog = true := by kernel_rfl
theorem rowed : allRowed Tryd.prog Tryd.f3.params.toList = true := by kernel_rfl
theorem resT : Tryd.f3.resultTypes = #[4] := by kernel_rfl
theorem door_met (os : Os) (args : Array Value) : laidMetH Tryd.prog Rows.fnExactPutLenRow.laid ((World.doorLaid Tryd.prog 400 os).forCall (fun _ _ => 0) ⟨#[], args, []⟩).memory :=
  laidMetH_of_parts3 (fuel := 8) (laidMet_of_run' 8 (by kernel_rfl) (by kernel_rfl)) (by kernel_rfl) (by kernel_rfl)

set_option maxRecDepth 100000 in
theorem lifted (os : Os) (started : os.Started) (H : Type) (enc : TypeId × Value → H) :
    ReturnsInHanded {} Tryd.checked os 3 .any (fun w args => (Rows.fnExactPutLenSpec.pre enc Tryd.prog Tryd.f3 [] false w args ∧ laidMetH Tryd.prog Rows.fnExactPutLenRow.laid w) ∧ sizedMet enc Tryd.prog Tryd.f3 (OpenSpec.ofChange Rows.fnExactPutLenSpec) false w args)
      (Rows.fnExactPutLenSpec.post enc Tryd.prog Tryd.f3 false true false false) := by
  refine returnsInHanded_of_change_and (C := Tryd.checked) (X := fun w _ => laidMetH Tryd.prog Rows.fnExactPutLenRow.laid w) (fun _ _ _ hh h => h.of_heap hh) own started (by kernel_rfl) Tryd.func3
    (ChangeSpec.witness_shaped (enc := enc) (C := Tryd.checked) (os := os) (X := fun w _ => laidMetH Tryd.prog Rows.fnExactPutLenRow.laid w) false (World.doorLaid Tryd.prog 400 os) #[.int .i64 0, .int .i64 0] 8 rfl (World.shaped_of_RefB (by kernel_rfl) (by kernel_rfl)) (by kernel_rfl) (by kernel_rfl) (by kernel_rfl) (door_met os _)) ?_
  intro W base args ds gs before hval0 hW _ _ hL0 _
  have hval : ∀ (j : Nat) t v, Tryd.f3.params[j]? = some t → args[j]? = some v → Value.okWide Tryd.prog W .any base t v := hval0
  have hW' := hW
  obtain ⟨p, q, hA0, hV, rfl, hfz, hnd⟩ := hW
  have hA : DataW.TrodAll enc Tryd.prog W 0 (fun _ => true) true Tryd.f3.params.toList args.toList ds p := hA0
  rw [Tryd.params3] at hA hval
  have hL := hL0
  rw [MakeChecks.laidMetH_plain _ _ _ (by kernel_rfl)] at hL
  have hT : laidMet Tryd.prog (("internal/strconv.uint64pow10", Lib.tabData .u64 Lib.pow10Tab) :: []) W := by rw [← datP]; exact hL.tail.tail
  have htab : Lib.TabIs Tryd.prog W "internal/strconv.uint64pow10" .u64 Lib.pow10Tab := Lib.tabIs_of_head (rest := []) gP tP Tryd.underlying81 Tryd.underlying67 cellsU cellsA hT
  obtain ⟨v0, vs0, d0, ds0, p0, q0, hargs, rfl, rfl, h0, r0⟩ := trodAll_cons hA
  obtain ⟨v1, vs1, d1, ds1, p1, q1, rfl, rfl, rfl, h1, r1⟩ := trodAll_cons r0
  obtain ⟨rfl, rfl, rfl⟩ := trodAll_nil r1
  obtain rfl : args = #[v0, v1] := by cases args; simp_all
  obtain ⟨rfl, rfl⟩ := trodVars_none hV
  obtain ⟨a0, rfl, rfl, rfl, w0⟩ := open_int Tryd.underlying3 (hval 0 3 v0 rfl rfl) h0
  obtain ⟨a1, rfl, rfl, rfl, w1⟩ := open_int Tryd.underlying3 (hval 1 3 v1 rfl rfl) h1
  clear hA0 hval0
  refine (walk W  htab _ _ w0 w1).mono fun e W' ⟨he, hg⟩ => ?_
  subst he
  exact ⟨_, rfl, post_true laidOut rowed hW' rfl resT Tryd.underlying4 hg (pv := []) rfl⟩

theorem over : Rows.fnExactPutLenRow.holds Tryd.pinned (OpenSpec.ofChange Rows.fnExactPutLenSpec) :=
  OpenClaim.holds_of_wide 3 Tryd.f3 rfl rfl rfl rfl rfl rfl rfl ⟨rfl, rfl, rfl, rfl, rfl⟩ rfl rfl rfl rfl rfl (by kernel_rfl) Tryd.func3 (by kernel_rfl)
    (of_decide_eq_true (by kernel_rfl)) (by unfold Func.isWrapper; first | (rw [if_pos (by decide +kernel)]; kernel_rfl) | (rw [if_neg (by decide +kernel)]; exact ⟨rfl, rfl⟩))
    (fun os started H enc _ => lifted os started H enc)

theorem said : Rows.FnExactPutLenSaid :=
  over

theorem plain (f : FuncId) (fn : Func) (hf : Tryd.pinned.checked.prog.funcNamed "loop.example/g00735/laws.FnExactPutLen" = some f) (hfn : Tryd.pinned.checked.prog.funcs[f]? = some fn) :
    Rows.fnExactPutLenCard.stood.looks = Tryd.pinned.checked.prog.looks [] ∧ ∀ (j : Nat) t, fn.params[j]? = some t → Tryd.pinned.checked.prog.wantsStandIn t = false := by
  obtain rfl : f = 3 := Option.some.inj ((show Tryd.prog.funcNamed "loop.example/g00735/laws.FnExactPutLen" = some 3 by kernel_rfl).symm.trans hf) |>.symm
  obtain rfl : fn = Tryd.f3 := (Option.some.inj (Tryd.func3.symm.trans hfn)).symm
  refine ⟨by kernel_rfl, fun j t ht => ?_⟩
  rw [Tryd.params3] at ht
  have hm : t ∈ [3, 3] := by simpa using Array.mem_of_getElem? ht
  have hall : ([3, 3].all fun u => !Tryd.prog.wantsStandIn u) = true := by kernel_rfl
  exact (show Tryd.prog.wantsStandIn t = false by simpa using List.all_eq_true.1 hall t hm)

theorem proved : Rows.FnExactPutLenCardSaid :=
  Claim7.holds_tied_plain_at .later [] _ _ _ _ said (fun _ h => by cases h) (by kernel_rfl) (fun _ h => by cases h) fnExactPutLen_row_tie rfl ⟨rfl, rfl⟩ (by kernel_rfl) rfl plain (by kernel_rfl)
#print axioms proved
end Go.Proofs.YtdenopiailffcaaDoor.fnExactPutLen
