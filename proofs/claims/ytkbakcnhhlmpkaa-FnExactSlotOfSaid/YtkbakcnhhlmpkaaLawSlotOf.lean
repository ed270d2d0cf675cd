/- FnExactSlotOf: for every argument the law answers true: the program's function returns what the reference returns; the listed package variables hold what the program's text lays (tied). -/
import Derived.Test.YtkbakcnhhlmpkaaPost
import Derived.Test.YtkbakcnhhlmpkaaOpenSlot
import Derived.Test.YtkbakcnhhlmpkaaSlotF
import Derived.Test.YtkbakcnhhlmpkaaSlotH
import Derived.Test.YtkbakcnhhlmpkaaSlotIF
namespace Go.Proofs.Ytkbakcnhhlmpkaa.fnExactSlotOf
open Go.ChangeShapes Go.WideShapes Go.ChangeAt Go.RowKit
open Go.WideMaps Go.WideElems
open Go.ChangeMaps (open_string shut_string)
set_option linter.unusedVariables false

set_option maxRecDepth 100000 in
theorem own : ownKnob Try.prog.godebug = none := by kernel_rfl

set_option maxRecDepth 100000 in
set_option maxHeartbeats 8000000 in
theorem walk (w : World)  (l0 : List SlotD) (u0 : Value) (a1 : ByteArray) (a2 : ByteArray) (w0 : SlotsR.rd w.heap.size w [u0] l0) (z0 : l0.length ≤ maxLen) (y0 : ∀ x ∈ l0, x.1.size ≤ maxLen ∧ x.2.1.size ≤ maxLen ∧ x.2.2.length ≤ maxLen ∧ isBytes x.2.2) (w1 : a1.size ≤ maxLen) (w2 : a2.size ≤ maxLen) :
    Calls Try.prog 5 #[u0, .string a1, .string a2] w fun e w' => e = .returned (.bool true) ∧ Below w.heap.size w w' := by
  obtain ⟨AL0, cL0, rfl, -⟩ := Rep.slice_form w0
  have HL0 := Lib.hid w0
  have HN0 := Lib.hid z0
  have HY0 := Lib.hid y0
  clear w0 z0 y0
  have HB0 : Hid (Below w.heap.size w w) := Lib.hid (Below.refl w.heap.size w)
  have hB0 : Below w.heap.size w w := Below.refl _ _
  have HA1 := Lib.hid w1
  clear w1
  by_cases hbig1 : (1048576 : Int) < (a1.size : Int)
  · go_enter Try.func5, Try.ntmps5
    go_wp2
    go_ret
    exact ⟨rfl, hB0⟩
  have HA2 := Lib.hid w2
  clear w2
  by_cases hbig2 : (1048576 : Int) < (a2.size : Int)
  · go_enter Try.func5, Try.ntmps5
    go_wp2
    go_ret
    exact ⟨rfl, hB0⟩
  go_enter Try.func5, Try.ntmps5
  go_wp2_with fail
  refine (szSlots_any w.heap.size _ l0 1048576 w HN0.out (fun x hx => ⟨(HY0.out x hx).1, (HY0.out x hx).2.1, (HY0.out x hx).2.2.1⟩) HL0.out (Nat.le_refl _) (by omega) (by omega)).mono ?_
  rintro e w101 ⟨r0, rfl, hr0, hb1⟩
  have zz101 : w.heap.size ≤ w101.heap.size := hb1.size
  have hB1 : Below w.heap.size w w101 := hb1
  have hw1 : Below w.heap.size w w101 := hb1
  replace HL0 := Lib.hid (Rep.below (R := SlotsR) HL0.out hw1 (Nat.le_refl _))
  rcases hr0 with rfl | ⟨hr0, hp0⟩
  · go_wp2
    go_ret
    exact ⟨rfl, hB1⟩
  have hz0 : slotsSz l0 ≤ 1048576 := by omega
  have hl0 := sz_len hz0
  have HS0 := Lib.hid (sz_reply hz0)
  have hq0 : r0 ≤ 1048576 := by omega
  have HR0 := Lib.hid hr0
  have HSZ0 := Lib.hid hz0
  clear hr0 hz0
  have hwl := slotOfL_len (t := a1) (m := a2) HS0.out
  go_wp2_with fail
  refine (toSlots_any w.heap.size _ l0 w101 hl0 HS0.out HL0.out (by omega)).mono ?_
  rintro e w102 ⟨u_2, rfl, hu2, hb2⟩
  obtain ⟨A_2, c_2, rfl, -⟩ := Rep.slice_form hu2.rd
  have zz102 : w101.heap.size ≤ w102.heap.size := hb2.size
  have hB2 := hB1.trans (hb2.mono (show w.heap.size ≤ _ by omega))
  replace HL0 := Lib.hid (Rep.below (R := SlotsR) HL0.out hb2 (by omega))
  have H2 := Lib.hid hu2
  go_wp2_with fail
  refine (specSlotOf_any _ _ l0 a1 a2 w102 hl0 HS0.out H2.out.rd (by omega)).mono ?_
  rintro e w103 ⟨u_3, rfl, hu3, hb3⟩
  obtain ⟨A_3, c_3, rfl, -⟩ := hu3.form
  have zz103 : w102.heap.size ≤ w103.heap.size := hb3.size
  have hB3 := hB2.trans (hb3.mono (show w.heap.size ≤ _ by omega))
  replace HL0 := Lib.hid (Rep.below (R := SlotsR) HL0.out hb3 (by omega))
  replace H2 := Lib.hid (H2.out.below hb3 (by omega))
  have HW := Lib.hid hu3
  clear H2
  generalize hwo : (slotOfL l0 a1 a2).1 = wm at hwl HW ⊢
  generalize hwk : (slotOfL l0 a1 a2).2 = wk
  have HWO := Lib.hid hwo
  have HWK := Lib.hid hwk
  clear hwo hwk
  go_wp2_with fail
  refine (toSlots_any w.heap.size _ l0 w103 hl0 HS0.out HL0.out (by omega)).mono ?_
  rintro e w104 ⟨u_4, rfl, hu4, hb4⟩
  obtain ⟨A_4, c_4, rfl, -⟩ := Rep.slice_form hu4.rd
  have zz104 : w103.heap.size ≤ w104.heap.size := hb4.size
  have hB4 := hB3.trans (hb4.mono (show w.heap.size ≤ _ by omega))
  replace HL0 := Lib.hid (Rep.below (R := SlotsR) HL0.out hb4 (by omega))
  replace HW := Lib.hid (HW.out.below hb4 (by omega))
  have H4 := Lib.hid hu4
  go_wp2_with fail
  refine (implSlotOf_any _ _ l0 a1 a2 w104 hl0 HS0.out H4.out.rd (by omega)).mono ?_
  rintro e w105 ⟨u_5, rfl, hu5, hb5⟩
  rw [HWO.out] at hu5
  rw [HWK.out]
  obtain ⟨A_5, c_5, rfl, -⟩ := hu5.form
  have zz105 : w104.heap.size ≤ w105.heap.size := hb5.size
  have hB5 := hB4.trans (hb5.mono (show w.heap.size ≤ _ by omega))
  replace HL0 := Lib.hid (Rep.below (R := SlotsR) HL0.out hb5 (by omega))
  replace HW := Lib.hid (HW.out.below hb5 (by omega))
  replace H4 := Lib.hid (H4.out.below hb5 (by omega))
  have HG := Lib.hid hu5
  go_wp2_with fail
  refine (eqBytes_any _ _ _ _ wm w105 (by omega) HG.out.rd HW.out.rd).mono ?_
  rintro e w106 ⟨rfl, hb6⟩
  have zz106 : w105.heap.size ≤ w106.heap.size := hb6.size
  have hB6 := hB5.trans (hb6.mono (show w.heap.size ≤ _ by omega))
  replace HL0 := Lib.hid (Rep.below (R := SlotsR) HL0.out hb6 (by omega))
  replace HW := Lib.hid (HW.out.below hb6 (by omega))
  replace H4 := Lib.hid (H4.out.below hb6 (by omega))
  replace HG := Lib.hid (HG.out.below hb6 (by omega))
  go_wp2_with fail
  refine (toSlots_any w.heap.size _ l0 w106 hl0 HS0.out HL0.out (by omega)).mono ?_
  rintro e w107 ⟨u_7, rfl, hu7, hb7⟩
  obtain ⟨A_7, c_7, rfl, -⟩ := Rep.slice_form hu7.rd
  have zz107 : w106.heap.size ≤ w107.heap.size := hb7.size
  have hB7 := hB6.trans (hb7.mono (show w.heap.size ≤ _ by omega))
  replace HL0 := Lib.hid (Rep.below (R := SlotsR) HL0.out hb7 (by omega))
  replace HW := Lib.hid (HW.out.below hb7 (by omega))
  replace H4 := Lib.hid (H4.out.below hb7 (by omega))
  replace HG := Lib.hid (HG.out.below hb7 (by omega))
  have HE := Lib.hid hu7
  go_wp2_with fail
  refine (eqSlots_any _ _ _ _ l0 w107 (by omega) (fun x hx => Nat.le_trans (HS0.out x hx) (by omega)) H4.out.rd HE.out.rd (by omega) (by omega)).mono ?_
  rintro e w108 ⟨rfl, hb8⟩
  have zz108 : w107.heap.size ≤ w108.heap.size := hb8.size
  have hB8 := hB7.trans (hb8.mono (show w.heap.size ≤ _ by omega))
  replace HL0 := Lib.hid (Rep.below (R := SlotsR) HL0.out hb8 (by omega))
  replace HW := Lib.hid (HW.out.below hb8 (by omega))
  replace H4 := Lib.hid (H4.out.below hb8 (by omega))
  replace HG := Lib.hid (HG.out.below hb8 (by omega))
  replace HE := Lib.hid (HE.out.below hb8 (by omega))
  clear HE
  go_wp2_with fail
  refine (markSlots_any _ _ _ l0 1 w108 (by decide) (sz_marks HSZ0.out (by decide)) H4.out (by omega)).mono ?_
  rintro e w109 ⟨rfl, hmk9, ht9⟩
  have zz109 : w108.heap.size ≤ w109.heap.size := ht9.size
  have hB9 := hB8.trans (ht9.below (show w.heap.size ≤ _ by omega) (by omega))
  replace HL0 := Lib.hid (Rep.turned (R := SlotsR) HL0.out ht9 (by omega) (by omega))
  replace HW := Lib.hid (HW.out.turned ht9 (by omega) (by omega))
  replace HG := Lib.hid (HG.out.turned ht9 (by omega) (by omega))
  clear H4
  have kk : ¬ (kAt 1 (lensOf l0) l0.length < 0) := by have := kAt_up l0 1; omega
  go_wp2_with fail
  refine (eqBytes_any _ _ _ _ wm w109 (by omega) HG.out.rd HW.out.rd).mono ?_
  rintro e w110 ⟨rfl, hb10⟩
  have zz110 : w109.heap.size ≤ w110.heap.size := hb10.size
  have hB10 := hB9.trans (hb10.mono (show w.heap.size ≤ _ by omega))
  replace HL0 := Lib.hid (Rep.below (R := SlotsR) HL0.out hb10 (by omega))
  replace HW := Lib.hid (HW.out.below hb10 (by omega))
  replace HG := Lib.hid (HG.out.below hb10 (by omega))
  go_wp2_with fail
  refine (markBytes_any _ _ _ wm 1 w110 (by omega) (by decide) (by decide) HG.out).mono ?_
  rintro e w111 ⟨rfl, hmk11, hg11⟩
  have ht11 := Turned.of_grown hg11 HG.out.blk
  clear hg11
  have zz111 : w110.heap.size ≤ w111.heap.size := ht11.size
  have hB11 := hB10.trans (ht11.below (show w.heap.size ≤ _ by omega) (by omega))
  replace HL0 := Lib.hid (Rep.turned (R := SlotsR) HL0.out ht11 (by omega) (by omega))
  replace HW := Lib.hid (HW.out.turned ht11 (by omega) (by omega))
  clear HG
  have HM := Lib.hid hmk11
  have kk2 : ¬ ((1 : Int) + (wm.length : Int) < 0) := by omega
  go_wp2_with fail
  refine (heldBytes_any _ _ wm.length 1 w111 (by omega) (by decide) (by decide) HM.out.rd).mono ?_
  rintro e w112 ⟨rfl, hb12⟩
  have zz112 : w111.heap.size ≤ w112.heap.size := hb12.size
  have hB12 := hB11.trans (hb12.mono (show w.heap.size ≤ _ by omega))
  replace HL0 := Lib.hid (Rep.below (R := SlotsR) HL0.out hb12 (by omega))
  replace HW := Lib.hid (HW.out.below hb12 (by omega))
  replace HM := Lib.hid (HM.out.below hb12 (by omega))
  go_wp2_with fail
  refine (toSlots_any w.heap.size _ l0 w112 hl0 HS0.out HL0.out (by omega)).mono ?_
  rintro e w113 ⟨u_13, rfl, hu13, hb13⟩
  obtain ⟨A_13, c_13, rfl, -⟩ := Rep.slice_form hu13.rd
  have zz113 : w112.heap.size ≤ w113.heap.size := hb13.size
  have hB13 := hB12.trans (hb13.mono (show w.heap.size ≤ _ by omega))
  replace HL0 := Lib.hid (Rep.below (R := SlotsR) HL0.out hb13 (by omega))
  replace HW := Lib.hid (HW.out.below hb13 (by omega))
  replace HM := Lib.hid (HM.out.below hb13 (by omega))
  have H5 := Lib.hid hu13
  go_wp2_with fail
  refine (implSlotOf_any _ _ l0 a1 a2 w113 hl0 HS0.out H5.out.rd (by omega)).mono ?_
  rintro e w114 ⟨u_14, rfl, hu14, hb14⟩
  rw [HWO.out] at hu14
  rw [HWK.out]
  obtain ⟨A_14, c_14, rfl, -⟩ := hu14.form
  have zz114 : w113.heap.size ≤ w114.heap.size := hb14.size
  have hB14 := hB13.trans (hb14.mono (show w.heap.size ≤ _ by omega))
  replace HL0 := Lib.hid (Rep.below (R := SlotsR) HL0.out hb14 (by omega))
  replace HW := Lib.hid (HW.out.below hb14 (by omega))
  replace HM := Lib.hid (HM.out.below hb14 (by omega))
  replace H5 := Lib.hid (H5.out.below hb14 (by omega))
  have HH := Lib.hid hu14
  go_wp2_with fail
  refine (eqBytes_any _ _ _ _ wm w114 (by omega) HH.out.rd HW.out.rd).mono ?_
  rintro e w115 ⟨rfl, hb15⟩
  have zz115 : w114.heap.size ≤ w115.heap.size := hb15.size
  have hB15 := hB14.trans (hb15.mono (show w.heap.size ≤ _ by omega))
  replace HL0 := Lib.hid (Rep.below (R := SlotsR) HL0.out hb15 (by omega))
  replace HW := Lib.hid (HW.out.below hb15 (by omega))
  replace HM := Lib.hid (HM.out.below hb15 (by omega))
  replace H5 := Lib.hid (H5.out.below hb15 (by omega))
  replace HH := Lib.hid (HH.out.below hb15 (by omega))
  go_wp2_with fail
  refine (heldBytes_any _ _ wm.length 1 w115 (by omega) (by decide) (by decide) HM.out.rd).mono ?_
  rintro e w116 ⟨rfl, hb16⟩
  have zz116 : w115.heap.size ≤ w116.heap.size := hb16.size
  have hB16 := hB15.trans (hb16.mono (show w.heap.size ≤ _ by omega))
  replace HL0 := Lib.hid (Rep.below (R := SlotsR) HL0.out hb16 (by omega))
  replace HW := Lib.hid (HW.out.below hb16 (by omega))
  replace HM := Lib.hid (HM.out.below hb16 (by omega))
  replace H5 := Lib.hid (H5.out.below hb16 (by omega))
  replace HH := Lib.hid (HH.out.below hb16 (by omega))
  go_wp2
  go_ret
  exact ⟨rfl, hB16⟩


set_option maxRecDepth 100000 in
theorem laidOut : laidOutB Try.prog = true := by kernel_rfl
set_option maxRecDepth 100000 in
theorem rowed : allRowed Try.prog Try.f5.params.toList = true := by kernel_rfl
set_option maxRecDepth 100000 in
theorem resT : Try.f5.resultTypes = #[4] := by kernel_rfl
set_option maxRecDepth 100000 in
theorem lifted (os : Os) (started : os.Started) (H : Type) (enc : TypeId × Value → H) :
    ReturnsInHanded {} Try.checked os 5 .any (Rows.fnExactSlotOfSpec.pre6 enc Try.prog Try.f5 Rows.fnExactSlotOfRow.domain false) (Rows.fnExactSlotOfSpec.post enc Try.prog Try.f5 false true false false) := by
  refine returnsInHanded_of_change (C := Try.checked) own started (by kernel_rfl) Try.func5
    (ChangeSpec.witness6 (enc := enc) (C := Try.checked) false ⟨#[], #[.slice none 0 0, .string ByteArray.empty, .string ByteArray.empty], []⟩ 8 (by kernel_rfl) (by kernel_rfl) (by kernel_rfl) (by kernel_rfl)) ?_
  intro W base args ds gs before hval0 hW hcnd _
  have hval : ∀ (j : Nat) t v, Try.f5.params[j]? = some t → args[j]? = some v → Value.okWide Try.prog W .any base t v := hval0
  have hW' := hW
  obtain ⟨p, q, hA0, hV, rfl, hfz, hnd⟩ := hW
  have hA : DataW.TrodAll enc Try.prog W 0 (fun _ => true) true Try.f5.params.toList args.toList ds p := hA0
  rw [Try.params5] at hA hval
  obtain ⟨v0, vs0, d0, ds0, p0, q0, hargs, rfl, rfl, h0, r0⟩ := trodAll_cons hA
  obtain ⟨v1, vs1, d1, ds1, p1, q1, rfl, rfl, rfl, h1, r1⟩ := trodAll_cons r0
  obtain ⟨v2, vs2, d2, ds2, p2, q2, rfl, rfl, rfl, h2, r2⟩ := trodAll_cons r1
  obtain ⟨rfl, rfl, rfl⟩ := trodAll_nil r2
  obtain rfl : args = #[v0, v1, v2] := by cases args; simp_all
  obtain ⟨rfl, rfl⟩ := trodVars_none hV
  obtain ⟨l0, w0, z0, y0⟩ := open_slots (hval 0 31 v0 rfl rfl) h0
  obtain ⟨a1, rfl, rfl, rfl, w1⟩ := open_string Try.underlying9 (hval 1 9 v1 rfl rfl) h1
  obtain ⟨a2, rfl, rfl, rfl, w2⟩ := open_string Try.underlying9 (hval 2 9 v2 rfl rfl) h2
  clear hA0 hval0
  refine (walk W  _ _ _ _ w0 z0 y0 w1 w2).mono fun e W' ⟨he, hg⟩ => ?_
  subst he
  exact ⟨_, rfl, post_true laidOut rowed hW' rfl resT Try.underlying4 hg (pv := []) rfl⟩

set_option maxRecDepth 100000 in
theorem over : Rows.fnExactSlotOfRow.holds Try.pinned (OpenSpec.ofChange Rows.fnExactSlotOfSpec) :=
  OpenClaim.holds_of_wide 5 Try.f5 rfl rfl rfl rfl rfl rfl rfl ⟨rfl, rfl, rfl, rfl, rfl⟩ rfl rfl rfl rfl rfl (by kernel_rfl) Try.func5 (by kernel_rfl)
    (of_decide_eq_true (by kernel_rfl)) (by unfold Func.isWrapper; first | (rw [if_pos (by decide +kernel)]; kernel_rfl) | (rw [if_neg (by decide +kernel)]; exact ⟨rfl, rfl⟩))
    (fun os started H enc _ => lifted os started H enc)

set_option maxRecDepth 100000 in
theorem proved : Rows.FnExactSlotOfSaid :=
  over
#print axioms proved
end Go.Proofs.Ytkbakcnhhlmpkaa.fnExactSlotOf
