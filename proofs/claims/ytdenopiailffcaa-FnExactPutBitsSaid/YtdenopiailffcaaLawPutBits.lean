/- FnExactPutBits: for every argument the law answers true: the program's function returns what the reference returns; the listed package variables hold what the program's text lays (tied). -/
import Derived.Test.YtdenopiailffcaaPost
import Derived.Test.YtdenopiailffcaaOpenNI
import Derived.Test.YtdenopiailffcaaBits
namespace Go.Proofs.Ytdenopiailffcaa.fnExactPutBits
open Go.ChangeShapes Go.WideShapes Go.ChangeAt Go.RowKit
open Go.WideMaps Go.WideElems
open Go.ChangeMaps (open_string shut_string)
set_option linter.unusedVariables false

theorem own : ownKnob Try.prog.godebug = none := by kernel_rfl

theorem walk (w : World)  (a0 : Value) (l0 : List Int) (w0 : rd .i64 w.heap.size w a0 l0) (y0 : isInts l0) :
    Calls Try.prog 5 #[a0] w fun e w' => e = .returned (.bool true) ∧ Below w.heap.size w w' := by
  obtain ⟨A, c, hform, hlc⟩ := w0.form
  by_cases hlen : (1048576 : Int) < (l0.length : Int)
  · subst hform
    clear w0
    go_enter Try.func5, Try.ntmps5
    go_wp2
    go_ret
    exact ⟨rfl, Below.refl _ _⟩
  have hn : l0.length ≤ 1048576 := by omega
  have hL : l0.length ≤ 4611686018427387904 := by omega
  have hG : (putB l0).length ≤ 4611686018427387904 := by have := putB_len l0; omega
  have A0 := Lib.hid w0
  have Y0 := Lib.hid y0
  subst hform
  clear w0 y0
  go_enter Try.func5, Try.ntmps5
  go_wp2_with fail
  refine (toInts_any _ _ l0 w hn A0.out (by omega)).mono ?_
  rintro e w1 ⟨uU1, rfl, hU1, hb1⟩
  have z1 := hb1.size
  have hB1 := hb1
  replace A0 := Lib.hid (A0.out.below hb1 (by omega))
  have U1 := Lib.hid hU1
  clear hU1
  go_wp2_with fail
  refine (specPutBits_any _ _ l0 w1 (by omega) U1.out.rd (by omega)).mono ?_
  rintro e w2 ⟨vw, rfl, hR0, hb2⟩
  have z2 := hb2.size
  have hB2 := hB1.trans (hb2.mono hB1.size)
  replace A0 := Lib.hid (A0.out.below hb2 (by omega))
  replace U1 := Lib.hid (U1.out.below hb2 (by omega))
  have R0 := Lib.hid hR0
  clear hR0
  go_wp2_with fail
  refine (toInts_any _ _ l0 w2 hn A0.out (by omega)).mono ?_
  rintro e w3 ⟨uX0, rfl, hX0, hb3⟩
  have z3 := hb3.size
  have hB3 := hB2.trans (hb3.mono hB2.size)
  replace A0 := Lib.hid (A0.out.below hb3 (by omega))
  replace U1 := Lib.hid (U1.out.below hb3 (by omega))
  replace R0 := Lib.hid (R0.out.below hb3 (by omega))
  have X0 := Lib.hid hX0
  clear hX0
  go_wp2_with fail
  refine (implPutBits_any _ _ l0 w3 (by omega) X0.out.rd (by omega)).mono ?_
  rintro e w4 ⟨vg, rfl, hR1, hb4⟩
  have z4 := hb4.size
  have hB4 := hB3.trans (hb4.mono hB3.size)
  replace A0 := Lib.hid (A0.out.below hb4 (by omega))
  replace U1 := Lib.hid (U1.out.below hb4 (by omega))
  replace R0 := Lib.hid (R0.out.below hb4 (by omega))
  replace X0 := Lib.hid (X0.out.below hb4 (by omega))
  have R1 := Lib.hid hR1
  clear hR1
  go_wp2_with fail
  refine (eqBytes_any _ _ _ _ _ w4 hG R1.out.rd R0.out.rd).mono ?_
  rintro e w5 ⟨rfl, hb5⟩
  have z5 := hb5.size
  have hB5 := hB4.trans (hb5.mono hB4.size)
  replace A0 := Lib.hid (A0.out.below hb5 (by omega))
  replace U1 := Lib.hid (U1.out.below hb5 (by omega))
  replace R0 := Lib.hid (R0.out.below hb5 (by omega))
  replace X0 := Lib.hid (X0.out.below hb5 (by omega))
  replace R1 := Lib.hid (R1.out.below hb5 (by omega))
  go_wp2_with fail
  refine (toInts_any _ _ l0 w5 hn A0.out (by omega)).mono ?_
  rintro e w6 ⟨uX1, rfl, hX1, hb6⟩
  have z6 := hb6.size
  have hB6 := hB5.trans (hb6.mono hB5.size)
  replace A0 := Lib.hid (A0.out.below hb6 (by omega))
  replace U1 := Lib.hid (U1.out.below hb6 (by omega))
  replace R0 := Lib.hid (R0.out.below hb6 (by omega))
  replace X0 := Lib.hid (X0.out.below hb6 (by omega))
  replace R1 := Lib.hid (R1.out.below hb6 (by omega))
  have X1 := Lib.hid hX1
  clear hX1
  go_wp2_with fail
  refine (eqInts_any _ _ _ _ l0 w6 hL X0.out.rd X1.out.rd).mono ?_
  rintro e w7 ⟨rfl, hb7⟩
  have z7 := hb7.size
  have hB7 := hB6.trans (hb7.mono hB6.size)
  replace A0 := Lib.hid (A0.out.below hb7 (by omega))
  replace U1 := Lib.hid (U1.out.below hb7 (by omega))
  replace R0 := Lib.hid (R0.out.below hb7 (by omega))
  replace X0 := Lib.hid (X0.out.below hb7 (by omega))
  replace R1 := Lib.hid (R1.out.below hb7 (by omega))
  replace X1 := Lib.hid (X1.out.below hb7 (by omega))
  go_wp2_with fail
  refine (markInts_any _ _ _ l0 1 w7 hL (by decide) (by decide) X0.out).mono ?_
  rintro e w8 ⟨rfl, hMX, hg8⟩
  have z8 := hg8.size
  have hL8 := below_of_grown (B := w.heap.size) hg8 (by omega) (fun k hk => by have := X0.out.blk k hk; omega)
  have hB8 := hB7.trans hL8
  replace A0 := Lib.hid (A0.out.below (below_of_grown hg8 (by omega) (fun k hk => (X0.out.blk k hk).1)) (by omega))
  replace U1 := Lib.hid (U1.out.grown hg8 (by omega) (fun k hk => by have := X0.out.blk k hk; omega))
  replace R0 := Lib.hid (R0.out.grown hg8 (by omega) (fun k hk => by have := X0.out.blk k hk; omega))
  replace R1 := Lib.hid (R1.out.grown hg8 (by omega) (fun k hk => by have := X0.out.blk k hk; omega))
  replace X1 := Lib.hid (X1.out.grown hg8 (by omega) (fun k hk => by have := X0.out.blk k hk; omega))
  clear X0
  have MX := Lib.hid hMX
  clear hMX
  go_wp2_with fail
  refine (eqBytes_any _ _ _ _ _ w8 hG R1.out.rd R0.out.rd).mono ?_
  rintro e w9 ⟨rfl, hb9⟩
  have z9 := hb9.size
  have hB9 := hB8.trans (hb9.mono hB8.size)
  replace A0 := Lib.hid (A0.out.below hb9 (by omega))
  replace U1 := Lib.hid (U1.out.below hb9 (by omega))
  replace R0 := Lib.hid (R0.out.below hb9 (by omega))
  replace R1 := Lib.hid (R1.out.below hb9 (by omega))
  replace X1 := Lib.hid (X1.out.below hb9 (by omega))
  replace MX := Lib.hid (MX.out.below hb9 (by omega))
  go_wp2_with fail
  refine (markBytes_any _ _ _ _ 1 w9 hG (by decide) (by decide) R1.out).mono ?_
  rintro e w10 ⟨rfl, hM1, hg10⟩
  have z10 := hg10.size
  have hL10 := below_of_grown (B := w.heap.size) hg10 (by omega) (fun k hk => by have := R1.out.blk k hk; omega)
  have hB10 := hB9.trans hL10
  replace A0 := Lib.hid (A0.out.below (below_of_grown hg10 (by omega) (fun k hk => (R1.out.blk k hk).1)) (by omega))
  replace U1 := Lib.hid (U1.out.grown hg10 (by omega) (fun k hk => by have := R1.out.blk k hk; omega))
  replace R0 := Lib.hid (R0.out.grown hg10 (by omega) (fun k hk => by have := R1.out.blk k hk; omega))
  replace X1 := Lib.hid (X1.out.grown hg10 (by omega) (fun k hk => by have := R1.out.blk k hk; omega))
  replace MX := Lib.hid (MX.out.grown hg10 (by omega) (fun k hk => by have := R1.out.blk k hk; omega))
  clear R1
  have M1 := Lib.hid hM1
  clear hM1
  go_wp2_with fail
  refine (heldBytes_any _ _ _ 1 w10 hG (by decide) (by decide) M1.out.rd).mono ?_
  rintro e w11 ⟨rfl, hb11⟩
  have z11 := hb11.size
  have hB11 := hB10.trans (hb11.mono hB10.size)
  replace A0 := Lib.hid (A0.out.below hb11 (by omega))
  replace U1 := Lib.hid (U1.out.below hb11 (by omega))
  replace R0 := Lib.hid (R0.out.below hb11 (by omega))
  replace X1 := Lib.hid (X1.out.below hb11 (by omega))
  replace MX := Lib.hid (MX.out.below hb11 (by omega))
  replace M1 := Lib.hid (M1.out.below hb11 (by omega))
  go_wp2_with fail
  refine (toInts_any _ _ l0 w11 hn A0.out (by omega)).mono ?_
  rintro e w12 ⟨uX2, rfl, hX2, hb12⟩
  have z12 := hb12.size
  have hB12 := hB11.trans (hb12.mono hB11.size)
  replace A0 := Lib.hid (A0.out.below hb12 (by omega))
  replace U1 := Lib.hid (U1.out.below hb12 (by omega))
  replace R0 := Lib.hid (R0.out.below hb12 (by omega))
  replace X1 := Lib.hid (X1.out.below hb12 (by omega))
  replace MX := Lib.hid (MX.out.below hb12 (by omega))
  replace M1 := Lib.hid (M1.out.below hb12 (by omega))
  have X2 := Lib.hid hX2
  clear hX2
  go_wp2_with fail
  refine (implPutBits_any _ _ l0 w12 (by omega) X2.out.rd (by omega)).mono ?_
  rintro e w13 ⟨vh, rfl, hR2, hb13⟩
  have z13 := hb13.size
  have hB13 := hB12.trans (hb13.mono hB12.size)
  replace A0 := Lib.hid (A0.out.below hb13 (by omega))
  replace U1 := Lib.hid (U1.out.below hb13 (by omega))
  replace R0 := Lib.hid (R0.out.below hb13 (by omega))
  replace X1 := Lib.hid (X1.out.below hb13 (by omega))
  replace MX := Lib.hid (MX.out.below hb13 (by omega))
  replace M1 := Lib.hid (M1.out.below hb13 (by omega))
  replace X2 := Lib.hid (X2.out.below hb13 (by omega))
  have R2 := Lib.hid hR2
  clear hR2
  go_wp2_with fail
  refine (eqBytes_any _ _ _ _ _ w13 hG R2.out.rd R0.out.rd).mono ?_
  rintro e w14 ⟨rfl, hb14⟩
  have z14 := hb14.size
  have hB14 := hB13.trans (hb14.mono hB13.size)
  replace A0 := Lib.hid (A0.out.below hb14 (by omega))
  replace U1 := Lib.hid (U1.out.below hb14 (by omega))
  replace R0 := Lib.hid (R0.out.below hb14 (by omega))
  replace X1 := Lib.hid (X1.out.below hb14 (by omega))
  replace MX := Lib.hid (MX.out.below hb14 (by omega))
  replace M1 := Lib.hid (M1.out.below hb14 (by omega))
  replace X2 := Lib.hid (X2.out.below hb14 (by omega))
  replace R2 := Lib.hid (R2.out.below hb14 (by omega))
  go_wp2_with fail
  refine (heldBytes_any _ _ _ 1 w14 hG (by decide) (by decide) M1.out.rd).mono ?_
  rintro e w15 ⟨rfl, hb15⟩
  have z15 := hb15.size
  have hB15 := hB14.trans (hb15.mono hB14.size)
  replace A0 := Lib.hid (A0.out.below hb15 (by omega))
  replace U1 := Lib.hid (U1.out.below hb15 (by omega))
  replace R0 := Lib.hid (R0.out.below hb15 (by omega))
  replace X1 := Lib.hid (X1.out.below hb15 (by omega))
  replace MX := Lib.hid (MX.out.below hb15 (by omega))
  replace M1 := Lib.hid (M1.out.below hb15 (by omega))
  replace X2 := Lib.hid (X2.out.below hb15 (by omega))
  replace R2 := Lib.hid (R2.out.below hb15 (by omega))
  go_wp2
  go_ret
  exact ⟨rfl, hB15⟩


theorem laidOut : laidOutB Try.prog = true := by kernel_rfl
theorem rowed : allRowed Try.prog Try.f5.params.toList = true := by kernel_rfl
theorem resT : Try.f5.resultTypes = #[4] := by kernel_rfl
set_option maxRecDepth 100000 in
theorem lifted (os : Os) (started : os.Started) (H : Type) (enc : TypeId × Value → H) :
    ReturnsInHanded {} Try.checked os 5 .any (Rows.fnExactPutBitsSpec.pre6 enc Try.prog Try.f5 Rows.fnExactPutBitsRow.domain false) (Rows.fnExactPutBitsSpec.post enc Try.prog Try.f5 false true false false) := by
  refine returnsInHanded_of_change (C := Try.checked) own started (by kernel_rfl) Try.func5
    (ChangeSpec.witness6 (enc := enc) (C := Try.checked) false ⟨#[], #[.slice none 0 0], []⟩ 8 (by kernel_rfl) (by kernel_rfl) (by kernel_rfl) (by kernel_rfl)) ?_
  intro W base args ds gs before hval0 hW hcnd _
  have hval : ∀ (j : Nat) t v, Try.f5.params[j]? = some t → args[j]? = some v → Value.okWide Try.prog W .any base t v := hval0
  have hW' := hW
  obtain ⟨p, q, hA0, hV, rfl, hfz, hnd⟩ := hW
  have hA : DataW.TrodAll enc Try.prog W 0 (fun _ => true) true Try.f5.params.toList args.toList ds p := hA0
  rw [Try.params5] at hA hval
  obtain ⟨v0, vs0, d0, ds0, p0, q0, hargs, rfl, rfl, h0, r0⟩ := trodAll_cons hA
  obtain ⟨rfl, rfl, rfl⟩ := trodAll_nil r0
  obtain rfl : args = #[v0] := by cases args; simp_all
  obtain ⟨rfl, rfl⟩ := trodVars_none hV
  obtain ⟨l0, w0, y0⟩ := open_rdInts (hval 0 32 v0 rfl rfl) h0
  clear hA0 hval0
  refine (walk W  _ _ w0 y0).mono fun e W' ⟨he, hg⟩ => ?_
  subst he
  exact ⟨_, rfl, post_true laidOut rowed hW' rfl resT Try.underlying4 hg (pv := []) rfl⟩

theorem over : Rows.fnExactPutBitsRow.holds Try.pinned (OpenSpec.ofChange Rows.fnExactPutBitsSpec) :=
  OpenClaim.holds_of_wide 5 Try.f5 rfl rfl rfl rfl rfl rfl rfl ⟨rfl, rfl, rfl, rfl, rfl⟩ rfl rfl rfl rfl rfl (by kernel_rfl) Try.func5 (by kernel_rfl)
    (of_decide_eq_true (by kernel_rfl)) (by unfold Func.isWrapper; first | (rw [if_pos (by decide +kernel)]; kernel_rfl) | (rw [if_neg (by decide +kernel)]; exact ⟨rfl, rfl⟩))
    (fun os started H enc _ => lifted os started H enc)

theorem proved : Rows.FnExactPutBitsSaid :=
  over
#print axioms proved
end Go.Proofs.Ytdenopiailffcaa.fnExactPutBits
