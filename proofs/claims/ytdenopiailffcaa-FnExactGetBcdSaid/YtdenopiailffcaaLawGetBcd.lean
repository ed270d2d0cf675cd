/- FnExactGetBcd: for every argument the law answers true: the program's function returns what the reference returns; the listed package variables hold what the program's text lays (tied). -/
import Derived.Test.YtdenopiailffcaaPost
import Derived.Test.YtdenopiailffcaaOpenNB
import Derived.Test.YtdenopiailffcaaGetBcd
namespace Go.Proofs.Ytdenopiailffcaa.fnExactGetBcd
open Go.ChangeShapes Go.WideShapes Go.ChangeAt Go.RowKit
open Go.WideMaps Go.WideElems
open Go.ChangeMaps (open_string shut_string)
set_option linter.unusedVariables false

theorem own : ownKnob Try.prog.godebug = none := by kernel_rfl

theorem walk (w : World)  (a0 : Value) (a1 : Int) (a2 : Int) (l0 : List Int) (w0 : rd .u8 w.heap.size w a0 l0) (y0 : isBytes l0) (w1 : (Lit.int .i64 a1).wf = true) (w2 : (Lit.int .i64 a2).wf = true) :
    Calls Try.prog 4 #[a0, .int .i64 a1, .int .i64 a2] w fun e w' => e = .returned (.bool true) ∧ Below w.heap.size w w' := by
  obtain ⟨A, c, hform, hlc⟩ := w0.form
  have hb1 := (bounds_i64 w1).2
  by_cases hlen : (1048576 : Int) < (l0.length : Int)
  · subst hform
    clear w0
    go_enter Try.func4, Try.ntmps4
    go_wp2
    go_ret
    exact ⟨rfl, Below.refl _ _⟩
  have hn : l0.length ≤ 1048576 := by omega
  have hL : l0.length ≤ 4611686018427387904 := by omega
  have A0 := Lib.hid w0
  have Y0 := Lib.hid y0
  subst hform
  clear w0 y0 w1 w2
  go_enter Try.func4, Try.ntmps4
  go_wp2_with fail
  refine (toBytes_any _ _ l0 w hn A0.out (by omega)).mono ?_
  rintro e w1 ⟨uU1, rfl, hU1, hb1⟩
  have z1 := hb1.size
  have hB1 := hb1
  replace A0 := Lib.hid (A0.out.below hb1 (by omega))
  have U1 := Lib.hid hU1
  clear hU1
  go_wp2_with fail
  refine (specGetBcd_any _ _ l0 a1 a2 w1 (by omega) (by omega) Y0.out U1.out.rd (by omega)).mono ?_
  rintro e w2 ⟨he, hb2⟩
  unfold gRes at he
  subst he
  have z2 := hb2.size
  have hB2 := hB1.trans (hb2.mono hB1.size)
  replace A0 := Lib.hid (A0.out.below hb2 (by omega))
  replace U1 := Lib.hid (U1.out.below hb2 (by omega))
  go_wp2_with fail
  refine (toBytes_any _ _ l0 w2 hn A0.out (by omega)).mono ?_
  rintro e w3 ⟨uU2, rfl, hU2, hb3⟩
  have z3 := hb3.size
  have hB3 := hB2.trans (hb3.mono hB2.size)
  replace A0 := Lib.hid (A0.out.below hb3 (by omega))
  replace U1 := Lib.hid (U1.out.below hb3 (by omega))
  have U2 := Lib.hid hU2
  clear hU2
  go_wp2_with fail
  refine (implGetBcd_any _ _ l0 a1 a2 w3 (by omega) (by omega) Y0.out U2.out.rd (by omega)).mono ?_
  rintro e w4 ⟨he, hb4⟩
  unfold gRes at he
  subst he
  have z4 := hb4.size
  have hB4 := hB3.trans (hb4.mono hB3.size)
  replace A0 := Lib.hid (A0.out.below hb4 (by omega))
  replace U1 := Lib.hid (U1.out.below hb4 (by omega))
  replace U2 := Lib.hid (U2.out.below hb4 (by omega))
  go_wp2_with fail
  refine (toBytes_any _ _ l0 w4 hn A0.out (by omega)).mono ?_
  rintro e w5 ⟨uU3, rfl, hU3, hb5⟩
  have z5 := hb5.size
  have hB5 := hB4.trans (hb5.mono hB4.size)
  replace A0 := Lib.hid (A0.out.below hb5 (by omega))
  replace U1 := Lib.hid (U1.out.below hb5 (by omega))
  replace U2 := Lib.hid (U2.out.below hb5 (by omega))
  have U3 := Lib.hid hU3
  clear hU3
  go_wp2_with fail
  refine (eqBytes_any _ _ _ _ l0 w5 hL U2.out.rd U3.out.rd).mono ?_
  rintro e w6 ⟨rfl, hb6⟩
  have z6 := hb6.size
  have hB6 := hB5.trans (hb6.mono hB5.size)
  replace A0 := Lib.hid (A0.out.below hb6 (by omega))
  replace U1 := Lib.hid (U1.out.below hb6 (by omega))
  replace U2 := Lib.hid (U2.out.below hb6 (by omega))
  replace U3 := Lib.hid (U3.out.below hb6 (by omega))
  go_wp2
  go_ret
  exact ⟨rfl, hB6⟩


theorem laidOut : laidOutB Try.prog = true := by kernel_rfl
theorem rowed : allRowed Try.prog Try.f4.params.toList = true := by kernel_rfl
theorem resT : Try.f4.resultTypes = #[4] := by kernel_rfl
set_option maxRecDepth 100000 in
theorem lifted (os : Os) (started : os.Started) (H : Type) (enc : TypeId × Value → H) :
    ReturnsInHanded {} Try.checked os 4 .any (Rows.fnExactGetBcdSpec.pre6 enc Try.prog Try.f4 Rows.fnExactGetBcdRow.domain false) (Rows.fnExactGetBcdSpec.post enc Try.prog Try.f4 false true false false) := by
  refine returnsInHanded_of_change (C := Try.checked) own started (by kernel_rfl) Try.func4
    (ChangeSpec.witness6 (enc := enc) (C := Try.checked) false ⟨#[], #[.slice none 0 0, .int .i64 0, .int .i64 0], []⟩ 8 (by kernel_rfl) (by kernel_rfl) (by kernel_rfl) (by kernel_rfl)) ?_
  intro W base args ds gs before hval0 hW hcnd _
  have hval : ∀ (j : Nat) t v, Try.f4.params[j]? = some t → args[j]? = some v → Value.okWide Try.prog W .any base t v := hval0
  have hW' := hW
  obtain ⟨p, q, hA0, hV, rfl, hfz, hnd⟩ := hW
  have hA : DataW.TrodAll enc Try.prog W 0 (fun _ => true) true Try.f4.params.toList args.toList ds p := hA0
  rw [Try.params4] at hA hval
  obtain ⟨v0, vs0, d0, ds0, p0, q0, hargs, rfl, rfl, h0, r0⟩ := trodAll_cons hA
  obtain ⟨v1, vs1, d1, ds1, p1, q1, rfl, rfl, rfl, h1, r1⟩ := trodAll_cons r0
  obtain ⟨v2, vs2, d2, ds2, p2, q2, rfl, rfl, rfl, h2, r2⟩ := trodAll_cons r1
  obtain ⟨rfl, rfl, rfl⟩ := trodAll_nil r2
  obtain rfl : args = #[v0, v1, v2] := by cases args; simp_all
  obtain ⟨rfl, rfl⟩ := trodVars_none hV
  obtain ⟨l0, w0, y0⟩ := open_rdBytes (hval 0 22 v0 rfl rfl) h0
  obtain ⟨a1, rfl, rfl, rfl, w1⟩ := open_int Try.underlying3 (hval 1 3 v1 rfl rfl) h1
  obtain ⟨a2, rfl, rfl, rfl, w2⟩ := open_int Try.underlying3 (hval 2 3 v2 rfl rfl) h2
  clear hA0 hval0
  refine (walk W  _ _ _ _ w0 y0 w1 w2).mono fun e W' ⟨he, hg⟩ => ?_
  subst he
  exact ⟨_, rfl, post_true laidOut rowed hW' rfl resT Try.underlying4 hg (pv := []) rfl⟩

theorem over : Rows.fnExactGetBcdRow.holds Try.pinned (OpenSpec.ofChange Rows.fnExactGetBcdSpec) :=
  OpenClaim.holds_of_wide 4 Try.f4 rfl rfl rfl rfl rfl rfl rfl ⟨rfl, rfl, rfl, rfl, rfl⟩ rfl rfl rfl rfl rfl (by kernel_rfl) Try.func4 (by kernel_rfl)
    (of_decide_eq_true (by kernel_rfl)) (by unfold Func.isWrapper; first | (rw [if_pos (by decide +kernel)]; kernel_rfl) | (rw [if_neg (by decide +kernel)]; exact ⟨rfl, rfl⟩))
    (fun os started H enc _ => lifted os started H enc)

theorem proved : Rows.FnExactGetBcdSaid :=
  over
#print axioms proved
end Go.Proofs.Ytdenopiailffcaa.fnExactGetBcd
