/- FnExactHexText: for every argument the law answers true: the program's function returns what the reference returns; the listed package variables hold what the program's text lays (tied). -/
import Derived.Test.YtdenopiailffcaaPost
import Derived.Test.YtdenopiailffcaaOpenNB
import Derived.Test.YtdenopiailffcaaNumsB
import Derived.Test.YtdenopiailffcaaHex
namespace Go.Proofs.Ytdenopiailffcaa.fnExactHexText
open Go.ChangeShapes Go.WideShapes Go.ChangeAt Go.RowKit
open Go.WideMaps Go.WideElems
open Go.ChangeMaps (open_string shut_string)
set_option linter.unusedVariables false

theorem own : ownKnob Try.prog.godebug = none := by kernel_rfl

theorem walk (w : World)  (a0 : Value) (l0 : List Int) (w0 : rd .u8 w.heap.size w a0 l0) (y0 : isBytes l0) :
    Calls Try.prog 8 #[a0] w fun e w' => e = .returned (.bool true) ∧ Below w.heap.size w w' := by
  obtain ⟨A, c, hform, hlc⟩ := w0.form
  have hlc' : l0.length ≤ 9223372036854775807 ∨ True := Or.inr trivial
  by_cases hlen : (1048576 : Int) < (l0.length : Int)
  · subst hform
    clear w0
    go_enter Try.func8, Try.ntmps8
    go_wp2
    go_ret
    exact ⟨rfl, Below.refl _ _⟩
  have hn : l0.length ≤ 1048576 := by omega
  have W0 := Lib.hid w0
  have Y0 := Lib.hid y0
  subst hform
  clear w0 y0
  go_enter Try.func8, Try.ntmps8
  go_wp2_with fail
  refine (toBytes_any _ _ l0 w hn W0.out (Nat.le_refl _)).mono ?_
  rintro e w1 ⟨u1, rfl, hu1, hb1⟩
  have U1 := Lib.hid hu1
  clear hu1
  go_wp2_with fail
  refine (specHexText_any _ _ l0 w1 (by omega) Y0.out U1.out.rd (Nat.le_refl _)).mono ?_
  rintro e w2 ⟨rfl, hb2⟩
  have hB2 := hb1.trans (hb2.mono hb1.size)
  have W2 := Lib.hid (W0.out.below hB2 (Nat.le_refl _))
  go_wp2_with fail
  refine (toBytes_any _ _ l0 w2 hn W2.out hB2.size).mono ?_
  rintro e w3 ⟨u3, rfl, hu3, hb3⟩
  have U3 := Lib.hid hu3
  have hB3 := hB2.trans (hb3.mono hB2.size)
  clear hu3
  go_wp2_with fail
  refine (implHexText_any _ _ l0 w3 (by omega) Y0.out U3.out.rd (Nat.le_refl _)).mono ?_
  rintro e w4 ⟨rfl, hb4⟩
  have hB4 := hB3.trans (hb4.mono hB3.size)
  have W4 := Lib.hid (W0.out.below hB4 (Nat.le_refl _))
  have U4 := Lib.hid (U3.out.below hb4 (Nat.le_refl _))
  go_wp2_with fail
  refine (toBytes_any _ _ l0 w4 hn W4.out hB4.size).mono ?_
  rintro e w5 ⟨u5, rfl, hu5, hb5⟩
  have U5 := Lib.hid hu5
  have hB5 := hB4.trans (hb5.mono hB4.size)
  have U45 := Lib.hid (U4.out.below hb5 (by have := hb4.size; omega))
  clear hu5
  go_wp2_with fail
  refine (eqBytes_any _ _ _ _ l0 w5 (by omega) U45.out.rd U5.out.rd).mono ?_
  rintro e w6 ⟨rfl, hb6⟩
  go_wp2
  go_ret
  exact ⟨rfl, hB5.trans (hb6.mono hB5.size)⟩


theorem laidOut : laidOutB Try.prog = true := by kernel_rfl
theorem rowed : allRowed Try.prog Try.f8.params.toList = true := by kernel_rfl
theorem resT : Try.f8.resultTypes = #[4] := by kernel_rfl
set_option maxRecDepth 100000 in
theorem lifted (os : Os) (started : os.Started) (H : Type) (enc : TypeId × Value → H) :
    ReturnsInHanded {} Try.checked os 8 .any (Rows.fnExactHexTextSpec.pre6 enc Try.prog Try.f8 Rows.fnExactHexTextRow.domain false) (Rows.fnExactHexTextSpec.post enc Try.prog Try.f8 false true false false) := by
  refine returnsInHanded_of_change (C := Try.checked) own started (by kernel_rfl) Try.func8
    (ChangeSpec.witness6 (enc := enc) (C := Try.checked) false ⟨#[], #[.slice none 0 0], []⟩ 8 (by kernel_rfl) (by kernel_rfl) (by kernel_rfl) (by kernel_rfl)) ?_
  intro W base args ds gs before hval0 hW hcnd _
  have hval : ∀ (j : Nat) t v, Try.f8.params[j]? = some t → args[j]? = some v → Value.okWide Try.prog W .any base t v := hval0
  have hW' := hW
  obtain ⟨p, q, hA0, hV, rfl, hfz, hnd⟩ := hW
  have hA : DataW.TrodAll enc Try.prog W 0 (fun _ => true) true Try.f8.params.toList args.toList ds p := hA0
  rw [Try.params8] at hA hval
  obtain ⟨v0, vs0, d0, ds0, p0, q0, hargs, rfl, rfl, h0, r0⟩ := trodAll_cons hA
  obtain ⟨rfl, rfl, rfl⟩ := trodAll_nil r0
  obtain rfl : args = #[v0] := by cases args; simp_all
  obtain ⟨rfl, rfl⟩ := trodVars_none hV
  obtain ⟨l0, w0, y0⟩ := open_rdBytes (hval 0 22 v0 rfl rfl) h0
  clear hA0 hval0
  refine (walk W  _ _ w0 y0).mono fun e W' ⟨he, hg⟩ => ?_
  subst he
  exact ⟨_, rfl, post_true laidOut rowed hW' rfl resT Try.underlying4 hg (pv := []) rfl⟩

theorem over : Rows.fnExactHexTextRow.holds Try.pinned (OpenSpec.ofChange Rows.fnExactHexTextSpec) :=
  OpenClaim.holds_of_wide 8 Try.f8 rfl rfl rfl rfl rfl rfl rfl ⟨rfl, rfl, rfl, rfl, rfl⟩ rfl rfl rfl rfl rfl (by kernel_rfl) Try.func8 (by kernel_rfl)
    (of_decide_eq_true (by kernel_rfl)) (by unfold Func.isWrapper; first | (rw [if_pos (by decide +kernel)]; kernel_rfl) | (rw [if_neg (by decide +kernel)]; exact ⟨rfl, rfl⟩))
    (fun os started H enc _ => lifted os started H enc)

theorem proved : Rows.FnExactHexTextSaid :=
  over
#print axioms proved
end Go.Proofs.Ytdenopiailffcaa.fnExactHexText
