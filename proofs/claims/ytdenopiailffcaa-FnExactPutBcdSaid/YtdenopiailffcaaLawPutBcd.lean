/- FnExactPutBcd: for every argument the law answers true: the program's function returns what the reference returns; the listed package variables hold what the program's text lays (tied). -/
import Derived.Test.YtdenopiailffcaaPost
import Derived.Test.YtdenopiailffcaaPutBcd
namespace Go.Proofs.Ytdenopiailffcaa.fnExactPutBcd
open Go.ChangeShapes Go.WideShapes Go.ChangeAt Go.RowKit
open Go.WideMaps Go.WideElems
open Go.ChangeMaps (open_string shut_string)
set_option linter.unusedVariables false

theorem own : ownKnob Try.prog.godebug = none := by kernel_rfl

theorem walk (w : World)  (a0 : ByteArray) (w0 : a0.size ≤ maxLen) :
    Calls Try.prog 3 #[.string a0] w fun e w' => e = .returned (.bool true) ∧ Below w.heap.size w w' := by
  by_cases hlen : (1048576 : Int) < (a0.size : Int)
  · go_enter Try.func3, Try.ntmps3
    go_wp2
    go_ret
    exact ⟨rfl, Below.refl _ _⟩
  have hs : a0.size ≤ 1048576 := by omega
  have hL : (bcd a0).length ≤ 4611686018427387904 := by have := bcd_len a0; omega
  go_enter Try.func3, Try.ntmps3
  go_wp2_with fail
  refine (specPutBcd_any a0 w (by omega)).mono ?_
  rintro e w1 ⟨v1, rfl, hU1, hb1⟩
  have z1 := hb1.size
  have hB1 := hb1
  have U1 := Lib.hid hU1
  clear hU1
  go_wp2_with fail
  refine (implPutBcd_any a0 w1 (by omega)).mono ?_
  rintro e w2 ⟨v2, rfl, hU2, hb2⟩
  have z2 := hb2.size
  have hB2 := hB1.trans (hb2.mono hB1.size)
  replace U1 := Lib.hid (U1.out.below hb2 (by omega))
  have U2 := Lib.hid hU2
  clear hU2
  go_wp2_with fail
  refine (eqBytes_any _ _ _ _ _ w2 hL U2.out.rd U1.out.rd).mono ?_
  rintro e w3 ⟨rfl, hb3⟩
  have z3 := hb3.size
  have hB3 := hB2.trans (hb3.mono hB2.size)
  replace U1 := Lib.hid (U1.out.below hb3 (by omega))
  replace U2 := Lib.hid (U2.out.below hb3 (by omega))
  go_wp2_with fail
  refine (markBytes_any _ _ _ _ 1 w3 hL (by decide) (by decide) U2.out).mono ?_
  rintro e w4 ⟨rfl, hM2, hg4⟩
  have z4 := hg4.size
  have hL4 := below_of_grown (B := w.heap.size) hg4 (by omega) (fun k hk => by have := U2.out.blk k hk; omega)
  have hB4 := hB3.trans hL4
  replace U1 := Lib.hid (U1.out.grown hg4 (by omega) (fun k hk => by have := U2.out.blk k hk; omega))
  clear U2
  have M2 := Lib.hid hM2
  clear hM2
  go_wp2_with fail
  refine (heldBytes_any _ _ _ 1 w4 hL (by decide) (by decide) M2.out.rd).mono ?_
  rintro e w5 ⟨rfl, hb5⟩
  have z5 := hb5.size
  have hB5 := hB4.trans (hb5.mono hB4.size)
  replace U1 := Lib.hid (U1.out.below hb5 (by omega))
  replace M2 := Lib.hid (M2.out.below hb5 (by omega))
  go_wp2_with fail
  refine (implPutBcd_any a0 w5 (by omega)).mono ?_
  rintro e w6 ⟨v3, rfl, hU3, hb6⟩
  have z6 := hb6.size
  have hB6 := hB5.trans (hb6.mono hB5.size)
  replace U1 := Lib.hid (U1.out.below hb6 (by omega))
  replace M2 := Lib.hid (M2.out.below hb6 (by omega))
  have U3 := Lib.hid hU3
  clear hU3
  go_wp2_with fail
  refine (eqBytes_any _ _ _ _ _ w6 hL U3.out.rd U1.out.rd).mono ?_
  rintro e w7 ⟨rfl, hb7⟩
  have z7 := hb7.size
  have hB7 := hB6.trans (hb7.mono hB6.size)
  replace U1 := Lib.hid (U1.out.below hb7 (by omega))
  replace M2 := Lib.hid (M2.out.below hb7 (by omega))
  replace U3 := Lib.hid (U3.out.below hb7 (by omega))
  go_wp2_with fail
  refine (heldBytes_any _ _ _ 1 w7 hL (by decide) (by decide) M2.out.rd).mono ?_
  rintro e w8 ⟨rfl, hb8⟩
  have z8 := hb8.size
  have hB8 := hB7.trans (hb8.mono hB7.size)
  replace U1 := Lib.hid (U1.out.below hb8 (by omega))
  replace M2 := Lib.hid (M2.out.below hb8 (by omega))
  replace U3 := Lib.hid (U3.out.below hb8 (by omega))
  go_wp2
  go_ret
  exact ⟨rfl, hB8⟩


theorem laidOut : laidOutB Try.prog = true := by kernel_rfl
theorem rowed : allRowed Try.prog Try.f3.params.toList = true := by kernel_rfl
theorem resT : Try.f3.resultTypes = #[4] := by kernel_rfl
set_option maxRecDepth 100000 in
theorem lifted (os : Os) (started : os.Started) (H : Type) (enc : TypeId × Value → H) :
    ReturnsInHanded {} Try.checked os 3 .any (Rows.fnExactPutBcdSpec.pre6 enc Try.prog Try.f3 Rows.fnExactPutBcdRow.domain false) (Rows.fnExactPutBcdSpec.post enc Try.prog Try.f3 false true false false) := by
  refine returnsInHanded_of_change (C := Try.checked) own started (by kernel_rfl) Try.func3
    (ChangeSpec.witness6 (enc := enc) (C := Try.checked) false ⟨#[], #[.string ByteArray.empty], []⟩ 8 (by kernel_rfl) (by kernel_rfl) (by kernel_rfl) (by kernel_rfl)) ?_
  intro W base args ds gs before hval0 hW hcnd _
  have hval : ∀ (j : Nat) t v, Try.f3.params[j]? = some t → args[j]? = some v → Value.okWide Try.prog W .any base t v := hval0
  have hW' := hW
  obtain ⟨p, q, hA0, hV, rfl, hfz, hnd⟩ := hW
  have hA : DataW.TrodAll enc Try.prog W 0 (fun _ => true) true Try.f3.params.toList args.toList ds p := hA0
  rw [Try.params3] at hA hval
  obtain ⟨v0, vs0, d0, ds0, p0, q0, hargs, rfl, rfl, h0, r0⟩ := trodAll_cons hA
  obtain ⟨rfl, rfl, rfl⟩ := trodAll_nil r0
  obtain rfl : args = #[v0] := by cases args; simp_all
  obtain ⟨rfl, rfl⟩ := trodVars_none hV
  obtain ⟨a0, rfl, rfl, rfl, w0⟩ := open_string Try.underlying9 (hval 0 9 v0 rfl rfl) h0
  clear hA0 hval0
  refine (walk W  _ w0).mono fun e W' ⟨he, hg⟩ => ?_
  subst he
  exact ⟨_, rfl, post_true laidOut rowed hW' rfl resT Try.underlying4 hg (pv := []) rfl⟩

theorem over : Rows.fnExactPutBcdRow.holds Try.pinned (OpenSpec.ofChange Rows.fnExactPutBcdSpec) :=
  OpenClaim.holds_of_wide 3 Try.f3 rfl rfl rfl rfl rfl rfl rfl ⟨rfl, rfl, rfl, rfl, rfl⟩ rfl rfl rfl rfl rfl (by kernel_rfl) Try.func3 (by kernel_rfl)
    (of_decide_eq_true (by kernel_rfl)) (by unfold Func.isWrapper; first | (rw [if_pos (by decide +kernel)]; kernel_rfl) | (rw [if_neg (by decide +kernel)]; exact ⟨rfl, rfl⟩))
    (fun os started H enc _ => lifted os started H enc)

theorem proved : Rows.FnExactPutBcdSaid :=
  over
#print axioms proved
end Go.Proofs.Ytdenopiailffcaa.fnExactPutBcd
