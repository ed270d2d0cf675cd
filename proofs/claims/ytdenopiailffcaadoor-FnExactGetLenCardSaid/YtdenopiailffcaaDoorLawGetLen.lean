/- FnExactGetLen: for every argument the law answers true: the program's function returns what the reference returns; the listed package variables hold what the program's text lays (tied). -/
import Derived.Test.YtdenopiailffcaaDoorPost
import Derived.Test.YtdenopiailffcaaDoorOpenNB
import Derived.Test.YtdenopiailffcaaDoorCards
import Derived.Test.YtdenopiailffcaaDoorTie
import Derived.Stop.LaidErr
import Derived.LaidMore
import Derived.Stop.Joined
import Derived.SevenTiedAt
import Derived.WalkSmall
import Derived.Test.YtdenopiailffcaaDoorLen
namespace Go.Proofs.YtdenopiailffcaaDoor.fnExactGetLen
open Go.ChangeShapes Go.WideShapes Go.ChangeAt Go.RowKit
open Go.WideMaps Go.WideElems
open Go.ChangeMaps (open_string shut_string)
set_option linter.unusedVariables false

theorem own : ownKnob Tryd.prog.godebug = none := by kernel_rfl

theorem walk (w : World) (p0 : Addr) (hc0 : w.cell? ⟨0, 0, none⟩ = some (.iface 87 (.pointer (some p0)))) (a0 : Value) (a1 : Int) (a2 : Int) (l0 : List Int) (w0 : rd .u8 w.heap.size w a0 l0) (y0 : isBytes l0) (w1 : (Lit.int .i64 a1).wf = true) (w2 : (Lit.int .i64 a2).wf = true) :
    Calls Tryd.prog 4 #[a0, .int .i64 a1, .int .i64 a2] w fun e w' => e = .returned (.bool true) ∧ Below w.heap.size w w' := by
  obtain ⟨A, c, hform, hlc⟩ := w0.form
  have hb1 := (bounds_i64 w1).2
  have hg : 0 < w.heap.size := by
    rcases Nat.lt_or_ge 0 w.heap.size with h | h
    · exact h
    · simp [World.cell?, Array.getElem?_eq_none h] at hc0
  have HC0 := Lib.hid hc0
  by_cases hlen : (1048576 : Int) < (l0.length : Int)
  · subst hform
    clear w0 hc0
    go_enter Tryd.func4, Tryd.ntmps4
    go_wp2
    go_ret
    exact ⟨rfl, Below.refl _ _⟩
  have hn : l0.length ≤ 1048576 := by omega
  have hL : l0.length ≤ 4611686018427387904 := by omega
  have A0 := Lib.hid w0
  have Y0 := Lib.hid y0
  subst hform
  clear w0 y0 w1 w2 hc0
  go_enter Tryd.func4, Tryd.ntmps4
  go_wp2_with fail
  refine (toBytes_any _ _ l0 w hn A0.out (by omega)).mono ?_
  rintro e w1 ⟨uU1, rfl, hU1, hb1⟩
  have z1 := hb1.size
  have hB1 := hb1
  replace A0 := Lib.hid (A0.out.below hb1 (by omega))
  replace HC0 := Lib.hid (((hb1.mono (B' := w.heap.size) (by omega)).cell (p := ⟨0, 0, none⟩) hg).trans HC0.out)
  have U1 := Lib.hid hU1
  clear hU1
  go_wp2_with fail
  refine (specGetLen_any _ _ l0 a1 a2 w1 (by omega) (by omega) Y0.out U1.out.rd (by omega)).mono ?_
  rintro e w2 ⟨he, hb2⟩
  unfold lenRes at he
  subst he
  have z2 := hb2.size
  have hB2 := hB1.trans (hb2.mono hB1.size)
  replace A0 := Lib.hid (A0.out.below hb2 (by omega))
  replace HC0 := Lib.hid (((hb2.mono (B' := w.heap.size) (by omega)).cell (p := ⟨0, 0, none⟩) hg).trans HC0.out)
  replace U1 := Lib.hid (U1.out.below hb2 (by omega))
  go_wp2_with fail
  refine (toBytes_any _ _ l0 w2 hn A0.out (by omega)).mono ?_
  rintro e w3 ⟨uU2, rfl, hU2, hb3⟩
  have z3 := hb3.size
  have hB3 := hB2.trans (hb3.mono hB2.size)
  replace A0 := Lib.hid (A0.out.below hb3 (by omega))
  replace HC0 := Lib.hid (((hb3.mono (B' := w.heap.size) (by omega)).cell (p := ⟨0, 0, none⟩) hg).trans HC0.out)
  replace U1 := Lib.hid (U1.out.below hb3 (by omega))
  have U2 := Lib.hid hU2
  clear hU2
  go_wp2_with fail
  refine (implGetLen_any _ _ l0 a1 a2 w3 p0 (by omega) HC0.out (by omega) (by omega) Y0.out U2.out.rd (by omega)).mono ?_
  rintro e w4 ⟨he, hb4⟩
  unfold lenRes at he
  subst he
  have z4 := hb4.size
  have hB4 := hB3.trans (hb4.mono hB3.size)
  replace A0 := Lib.hid (A0.out.below hb4 (by omega))
  replace HC0 := Lib.hid (((hb4.mono (B' := w.heap.size) (by omega)).cell (p := ⟨0, 0, none⟩) hg).trans HC0.out)
  replace U1 := Lib.hid (U1.out.below hb4 (by omega))
  replace U2 := Lib.hid (U2.out.below hb4 (by omega))
  go_wp2_with fail
  refine (toBytes_any _ _ l0 w4 hn A0.out (by omega)).mono ?_
  rintro e w5 ⟨uU3, rfl, hU3, hb5⟩
  have z5 := hb5.size
  have hB5 := hB4.trans (hb5.mono hB4.size)
  replace A0 := Lib.hid (A0.out.below hb5 (by omega))
  replace HC0 := Lib.hid (((hb5.mono (B' := w.heap.size) (by omega)).cell (p := ⟨0, 0, none⟩) hg).trans HC0.out)
  replace U1 := Lib.hid (U1.out.below hb5 (by omega))
  replace U2 := Lib.hid (U2.out.below hb5 (by omega))
  have U3 := Lib.hid hU3
  clear hU3
  go_wp2_with fail
  refine (eqBytes_any _ _ _ _ l0 w5 hL U2.out.rd U3.out.rd).mono ?_
  rintro e w6 ⟨rfl, hb6⟩
  have z6 := hb6.size
  have hB6 := hB5.trans (hb6.mono hB5.size)
  replace A0 := Lib.hid (A0.out.below hb6 (by omega))
  replace HC0 := Lib.hid (((hb6.mono (B' := w.heap.size) (by omega)).cell (p := ⟨0, 0, none⟩) hg).trans HC0.out)
  replace U1 := Lib.hid (U1.out.below hb6 (by omega))
  replace U2 := Lib.hid (U2.out.below hb6 (by omega))
  replace U3 := Lib.hid (U3.out.below hb6 (by omega))
  go_wp2
  go_ret
  exact ⟨rfl, hB6⟩

theorem t0 : (Tryd.prog.globals[0]?).map (·.type) = some 45 := by kernel_rfl
theorem g0 : Tryd.prog.globalNamed "loop.example/g00735/impl.errNotDigits" = some 0 := by kernel_rfl
theorem cellsE : Tryd.prog.cellsOf 101 = 1 := by kernel_rfl
theorem cellsS : Tryd.prog.cellsOf 9 = 1 := by kernel_rfl
theorem star : "*" ++ "errors.errorString" = "*errors.errorString" := by decide
theorem rowE (u : TypeId) (h : Tryd.prog.typeName? 3 u = some "*errors.errorString") : u = 87 :=
  typeName_ptr_named (nm := "errors.errorString") (by rw [star]; kernel_rfl) (by kernel_rfl) (by decide) u (by rw [star]; exact h)

theorem laidOut : laidOutB Tryd.prog = true := by kernel_rfl
theorem rowed : allRowed Tryd.prog Tryd.f4.params.toList = true := by kernel_rfl
theorem resT : Tryd.f4.resultTypes = #[4] := by kernel_rfl
theorem door_met (os : Os) (args : Array Value) : laidMetH Tryd.prog Rows.fnExactGetLenRow.laid ((World.doorLaid Tryd.prog 400 os).forCall (fun _ _ => 0) ⟨#[], args, []⟩).memory :=
  laidMetH_of_parts3 (fuel := 8) (laidMet_of_run' 8 (by kernel_rfl) (by kernel_rfl)) (by kernel_rfl) (by kernel_rfl)

set_option maxRecDepth 100000 in
theorem lifted (os : Os) (started : os.Started) (H : Type) (enc : TypeId × Value → H) :
    ReturnsInHanded {} Tryd.checked os 4 .any (fun w args => (Rows.fnExactGetLenSpec.pre enc Tryd.prog Tryd.f4 [] false w args ∧ laidMetH Tryd.prog Rows.fnExactGetLenRow.laid w) ∧ sizedMet enc Tryd.prog Tryd.f4 (OpenSpec.ofChange Rows.fnExactGetLenSpec) false w args)
      (Rows.fnExactGetLenSpec.post enc Tryd.prog Tryd.f4 false true false false) := by
  refine returnsInHanded_of_change_and (C := Tryd.checked) (X := fun w _ => laidMetH Tryd.prog Rows.fnExactGetLenRow.laid w) (fun _ _ _ hh h => h.of_heap hh) own started (by kernel_rfl) Tryd.func4
    (ChangeSpec.witness_shaped (enc := enc) (C := Tryd.checked) (os := os) (X := fun w _ => laidMetH Tryd.prog Rows.fnExactGetLenRow.laid w) false (World.doorLaid Tryd.prog 400 os) #[.slice none 0 0, .int .i64 0, .int .i64 0] 8 rfl (World.shaped_of_RefB (by kernel_rfl) (by kernel_rfl)) (by kernel_rfl) (by kernel_rfl) (by kernel_rfl) (door_met os _)) ?_
  intro W base args ds gs before hval0 hW _ _ hL0 _
  have hval : ∀ (j : Nat) t v, Tryd.f4.params[j]? = some t → args[j]? = some v → Value.okWide Tryd.prog W .any base t v := hval0
  have hW' := hW
  obtain ⟨p, q, hA0, hV, rfl, hfz, hnd⟩ := hW
  have hA : DataW.TrodAll enc Tryd.prog W 0 (fun _ => true) true Tryd.f4.params.toList args.toList ds p := hA0
  rw [Tryd.params4] at hA hval
  have hL := hL0
  rw [MakeChecks.laidMetH_plain _ _ _ (by kernel_rfl)] at hL
  obtain ⟨b0, s0, hv0, _, _, _⟩ := laid_sentinel hL g0 t0 Tryd.underlying45 rowE Tryd.underlying87 Tryd.underlying101 rfl rfl Tryd.underlying9 cellsE cellsS
  have hc0 : W.cell? ⟨0, 0, none⟩ = some (.iface 87 (.pointer (some b0))) := by simpa using World.var?_cell g0 hv0 0
  have hlt0 : 0 < W.heap.size := by
    rcases Nat.lt_or_ge 0 W.heap.size with h | h
    · exact h
    · simp [World.cell?, Array.getElem?_eq_none h] at hc0
  obtain ⟨v0, vs0, d0, ds0, p0, q0, hargs, rfl, rfl, h0, r0⟩ := trodAll_cons hA
  obtain ⟨v1, vs1, d1, ds1, p1, q1, rfl, rfl, rfl, h1, r1⟩ := trodAll_cons r0
  obtain ⟨v2, vs2, d2, ds2, p2, q2, rfl, rfl, rfl, h2, r2⟩ := trodAll_cons r1
  obtain ⟨rfl, rfl, rfl⟩ := trodAll_nil r2
  obtain rfl : args = #[v0, v1, v2] := by cases args; simp_all
  obtain ⟨rfl, rfl⟩ := hV.unique (vars_read1 enc g0 t0 Tryd.underlying45 hv0 trivial _)
  obtain ⟨l0, w0, y0⟩ := open_rdBytes (hval 0 22 v0 rfl rfl) h0
  obtain ⟨a1, rfl, rfl, rfl, w1⟩ := open_int Tryd.underlying3 (hval 1 3 v1 rfl rfl) h1
  obtain ⟨a2, rfl, rfl, rfl, w2⟩ := open_int Tryd.underlying3 (hval 2 3 v2 rfl rfl) h2
  clear hA0 hval0
  refine (walk W _ hc0 _ _ _ _ w0 y0 w1 w2).mono fun e W' ⟨he, hg⟩ => ?_
  subst he
  exact ⟨_, rfl, post_true laidOut rowed hW' rfl resT Tryd.underlying4 hg (vars_read1 enc g0 t0 Tryd.underlying45 (var?_below hg g0 hlt0 hv0) trivial _)⟩

theorem over : Rows.fnExactGetLenRow.holds Tryd.pinned (OpenSpec.ofChange Rows.fnExactGetLenSpec) :=
  OpenClaim.holds_of_wide 4 Tryd.f4 rfl rfl rfl rfl rfl rfl rfl ⟨rfl, rfl, rfl, rfl, rfl⟩ rfl rfl rfl rfl rfl (by kernel_rfl) Tryd.func4 (by kernel_rfl)
    (of_decide_eq_true (by kernel_rfl)) (by unfold Func.isWrapper; first | (rw [if_pos (by decide +kernel)]; kernel_rfl) | (rw [if_neg (by decide +kernel)]; exact ⟨rfl, rfl⟩))
    (fun os started H enc _ => lifted os started H enc)

theorem said : Rows.FnExactGetLenSaid :=
  over

theorem plain (f : FuncId) (fn : Func) (hf : Tryd.pinned.checked.prog.funcNamed "loop.example/g00735/laws.FnExactGetLen" = some f) (hfn : Tryd.pinned.checked.prog.funcs[f]? = some fn) :
    Rows.fnExactGetLenCard.stood.looks = Tryd.pinned.checked.prog.looks [] ∧ ∀ (j : Nat) t, fn.params[j]? = some t → Tryd.pinned.checked.prog.wantsStandIn t = false := by
  obtain rfl : f = 4 := Option.some.inj ((show Tryd.prog.funcNamed "loop.example/g00735/laws.FnExactGetLen" = some 4 by kernel_rfl).symm.trans hf) |>.symm
  obtain rfl : fn = Tryd.f4 := (Option.some.inj (Tryd.func4.symm.trans hfn)).symm
  refine ⟨by kernel_rfl, fun j t ht => ?_⟩
  rw [Tryd.params4] at ht
  have hm : t ∈ [22, 3, 3] := by simpa using Array.mem_of_getElem? ht
  have hall : ([22, 3, 3].all fun u => !Tryd.prog.wantsStandIn u) = true := by kernel_rfl
  exact (show Tryd.prog.wantsStandIn t = false by simpa using List.all_eq_true.1 hall t hm)

theorem proved : Rows.FnExactGetLenCardSaid :=
  Claim7.holds_tied_plain_at .later [] _ _ _ _ said (fun _ h => by cases h) (by kernel_rfl) (fun _ h => by cases h) fnExactGetLen_row_tie rfl ⟨rfl, rfl⟩ (by kernel_rfl) rfl plain (by kernel_rfl)
#print axioms proved
end Go.Proofs.YtdenopiailffcaaDoor.fnExactGetLen
