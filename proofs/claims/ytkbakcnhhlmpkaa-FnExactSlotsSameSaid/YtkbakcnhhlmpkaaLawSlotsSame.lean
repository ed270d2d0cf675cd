/- FnExactSlotsSame: for every argument the law answers true: the program's function returns what the reference returns; the listed package variables hold what the program's text lays (tied). -/
import Derived.Test.YtkbakcnhhlmpkaaPost
import Derived.Test.YtkbakcnhhlmpkaaOpenSlot
import Derived.Test.YtkbakcnhhlmpkaaSlotQ
import Derived.Test.YtkbakcnhhlmpkaaSlotH
import Derived.Test.YtkbakcnhhlmpkaaSlotIQ
namespace Go.Proofs.Ytkbakcnhhlmpkaa.fnExactSlotsSame
open Go.ChangeShapes Go.WideShapes Go.ChangeAt Go.RowKit
open Go.WideMaps Go.WideElems
open Go.ChangeMaps (open_string shut_string)
set_option linter.unusedVariables false

set_option maxRecDepth 100000 in
theorem own : ownKnob Try.prog.godebug = none := by kernel_rfl

set_option maxRecDepth 100000 in
set_option maxHeartbeats 8000000 in
theorem walk (w : World)  (l0 : List SlotD) (u0 : Value) (l1 : List SlotD) (u1 : Value) (w0 : SlotsR.rd w.heap.size w [u0] l0) (z0 : l0.length ≤ maxLen) (y0 : ∀ x ∈ l0, x.1.size ≤ maxLen ∧ x.2.1.size ≤ maxLen ∧ x.2.2.length ≤ maxLen ∧ isBytes x.2.2) (w1 : SlotsR.rd w.heap.size w [u1] l1) (z1 : l1.length ≤ maxLen) (y1 : ∀ x ∈ l1, x.1.size ≤ maxLen ∧ x.2.1.size ≤ maxLen ∧ x.2.2.length ≤ maxLen ∧ isBytes x.2.2) :
    Calls Try.prog 7 #[u0, u1] w fun e w' => e = .returned (.bool true) ∧ Below w.heap.size w w' := by
  obtain ⟨AL0, cL0, rfl, -⟩ := Rep.slice_form w0
  have HL0 := Lib.hid w0
  have HN0 := Lib.hid z0
  have HY0 := Lib.hid y0
  clear w0 z0 y0
  obtain ⟨AL1, cL1, rfl, -⟩ := Rep.slice_form w1
  have HL1 := Lib.hid w1
  have HN1 := Lib.hid z1
  have HY1 := Lib.hid y1
  clear w1 z1 y1
  have HB0 : Hid (Below w.heap.size w w) := Lib.hid (Below.refl w.heap.size w)
  have hB0 : Below w.heap.size w w := Below.refl _ _
  go_enter Try.func7, Try.ntmps7
  go_wp2_with fail
  refine (szSlots_any w.heap.size _ l0 1048576 w HN0.out (fun x hx => ⟨(HY0.out x hx).1, (HY0.out x hx).2.1, (HY0.out x hx).2.2.1⟩) HL0.out (Nat.le_refl _) (by omega) (by omega)).mono ?_
  rintro e w101 ⟨r0, rfl, hr0, hb1⟩
  have zz101 : w.heap.size ≤ w101.heap.size := hb1.size
  have hB1 : Below w.heap.size w w101 := hb1
  have hw1 : Below w.heap.size w w101 := hb1
  replace HL0 := Lib.hid (Rep.below (R := SlotsR) HL0.out hw1 (Nat.le_refl _))
  replace HL1 := Lib.hid (Rep.below (R := SlotsR) HL1.out hw1 (Nat.le_refl _))
  rcases hr0 with rfl | ⟨hr0, hp0⟩
  · go_wp2
    go_ret
    exact ⟨rfl, hB1⟩
  have hz0 : slotsSz l0 ≤ 1048576 := by omega
  have hl0 := sz_len hz0
  have HS0 := Lib.hid (sz_reply hz0)
  have hq0 : r0 ≤ 1048576 := by omega
  have HR0 := Lib.hid hr0
  have HSZ0 := Lib.hid hz0
  clear hr0 hz0
  go_wp2_with fail
  refine (szSlots_any w.heap.size _ l1 r0 w101 HN1.out (fun x hx => ⟨(HY1.out x hx).1, (HY1.out x hx).2.1, (HY1.out x hx).2.2.1⟩) HL1.out (by first | omega | (simp <;> omega)) (by omega) (by omega)).mono ?_
  rintro e w102 ⟨r1, rfl, hr1, hb2⟩
  have zz102 : w101.heap.size ≤ w102.heap.size := hb2.size
  have hB2 := hB1.trans (hb2.mono (show w.heap.size ≤ _ by omega))
  replace HL0 := Lib.hid (Rep.below (R := SlotsR) HL0.out hb2 (by omega))
  replace HL1 := Lib.hid (Rep.below (R := SlotsR) HL1.out hb2 (by omega))
  rcases hr1 with rfl | ⟨hr1, hp1⟩
  · go_wp2
    go_ret
    exact ⟨rfl, hB2⟩
  have hz1 : slotsSz l1 ≤ 1048576 := by omega
  have hl1 := sz_len hz1
  have HS1 := Lib.hid (sz_reply hz1)
  have hq1 : r1 ≤ 1048576 := by omega
  have HR1 := Lib.hid hr1
  have HSZ1 := Lib.hid hz1
  clear hr1 hz1
  go_wp2_with fail
  refine (toSlots_any w.heap.size _ l0 w102 hl0 HS0.out HL0.out (by omega)).mono ?_
  rintro e w103 ⟨u_3, rfl, hu3, hb3⟩
  obtain ⟨A_3, c_3, rfl, -⟩ := Rep.slice_form hu3.rd
  have zz103 : w102.heap.size ≤ w103.heap.size := hb3.size
  have hB3 := hB2.trans (hb3.mono (show w.heap.size ≤ _ by omega))
  replace HL0 := Lib.hid (Rep.below (R := SlotsR) HL0.out hb3 (by omega))
  replace HL1 := Lib.hid (Rep.below (R := SlotsR) HL1.out hb3 (by omega))
  have H2 := Lib.hid hu3
  go_wp2_with fail
  refine (toSlots_any w.heap.size _ l1 w103 hl1 HS1.out HL1.out (by omega)).mono ?_
  rintro e w104 ⟨u_4, rfl, hu4, hb4⟩
  obtain ⟨A_4, c_4, rfl, -⟩ := Rep.slice_form hu4.rd
  have zz104 : w103.heap.size ≤ w104.heap.size := hb4.size
  have hB4 := hB3.trans (hb4.mono (show w.heap.size ≤ _ by omega))
  replace HL0 := Lib.hid (Rep.below (R := SlotsR) HL0.out hb4 (by omega))
  replace HL1 := Lib.hid (Rep.below (R := SlotsR) HL1.out hb4 (by omega))
  replace H2 := Lib.hid (H2.out.below hb4 (by omega))
  have H3 := Lib.hid hu4
  go_wp2_with fail
  refine (specSlotsSame_any _ _ _ l0 l1 w104 hl0 (SlotsR.rd_mono H2.out.rd (by omega)) H3.out.rd (Nat.le_refl _)).mono ?_
  rintro e w105 ⟨rfl, hb5⟩
  have zz105 : w104.heap.size ≤ w105.heap.size := hb5.size
  have hB5 := hB4.trans (hb5.mono (show w.heap.size ≤ _ by omega))
  replace HL0 := Lib.hid (Rep.below (R := SlotsR) HL0.out hb5 (by omega))
  replace HL1 := Lib.hid (Rep.below (R := SlotsR) HL1.out hb5 (by omega))
  replace H2 := Lib.hid (H2.out.below hb5 (by omega))
  replace H3 := Lib.hid (H3.out.below hb5 (by omega))
  clear H2
  clear H3
  go_wp2_with fail
  refine (toSlots_any w.heap.size _ l0 w105 hl0 HS0.out HL0.out (by omega)).mono ?_
  rintro e w106 ⟨u_6, rfl, hu6, hb6⟩
  obtain ⟨A_6, c_6, rfl, -⟩ := Rep.slice_form hu6.rd
  have zz106 : w105.heap.size ≤ w106.heap.size := hb6.size
  have hB6 := hB5.trans (hb6.mono (show w.heap.size ≤ _ by omega))
  replace HL0 := Lib.hid (Rep.below (R := SlotsR) HL0.out hb6 (by omega))
  replace HL1 := Lib.hid (Rep.below (R := SlotsR) HL1.out hb6 (by omega))
  have H4 := Lib.hid hu6
  go_wp2_with fail
  refine (toSlots_any w.heap.size _ l1 w106 hl1 HS1.out HL1.out (by omega)).mono ?_
  rintro e w107 ⟨u_7, rfl, hu7, hb7⟩
  obtain ⟨A_7, c_7, rfl, -⟩ := Rep.slice_form hu7.rd
  have zz107 : w106.heap.size ≤ w107.heap.size := hb7.size
  have hB7 := hB6.trans (hb7.mono (show w.heap.size ≤ _ by omega))
  replace HL0 := Lib.hid (Rep.below (R := SlotsR) HL0.out hb7 (by omega))
  replace HL1 := Lib.hid (Rep.below (R := SlotsR) HL1.out hb7 (by omega))
  replace H4 := Lib.hid (H4.out.below hb7 (by omega))
  have H5 := Lib.hid hu7
  go_wp2_with fail
  refine (implSlotsSame_any _ _ _ l0 l1 w107 hl0 (SlotsR.rd_mono H4.out.rd (by omega)) H5.out.rd (Nat.le_refl _)).mono ?_
  rintro e w108 ⟨rfl, hb8⟩
  have zz108 : w107.heap.size ≤ w108.heap.size := hb8.size
  have hB8 := hB7.trans (hb8.mono (show w.heap.size ≤ _ by omega))
  replace HL0 := Lib.hid (Rep.below (R := SlotsR) HL0.out hb8 (by omega))
  replace HL1 := Lib.hid (Rep.below (R := SlotsR) HL1.out hb8 (by omega))
  replace H4 := Lib.hid (H4.out.below hb8 (by omega))
  replace H5 := Lib.hid (H5.out.below hb8 (by omega))
  generalize slotsSame l0 l1 = res
  go_wp2_with fail
  refine (toSlots_any w.heap.size _ l0 w108 hl0 HS0.out HL0.out (by omega)).mono ?_
  rintro e w109 ⟨u_9, rfl, hu9, hb9⟩
  obtain ⟨A_9, c_9, rfl, -⟩ := Rep.slice_form hu9.rd
  have zz109 : w108.heap.size ≤ w109.heap.size := hb9.size
  have hB9 := hB8.trans (hb9.mono (show w.heap.size ≤ _ by omega))
  replace HL0 := Lib.hid (Rep.below (R := SlotsR) HL0.out hb9 (by omega))
  replace HL1 := Lib.hid (Rep.below (R := SlotsR) HL1.out hb9 (by omega))
  replace H4 := Lib.hid (H4.out.below hb9 (by omega))
  replace H5 := Lib.hid (H5.out.below hb9 (by omega))
  have HE := Lib.hid hu9
  go_wp2_with fail
  refine (eqSlots_any _ _ _ _ l0 w109 (by omega) (fun x hx => Nat.le_trans (HS0.out x hx) (by omega)) H4.out.rd HE.out.rd (by omega) (by omega)).mono ?_
  rintro e w110 ⟨rfl, hb10⟩
  have zz110 : w109.heap.size ≤ w110.heap.size := hb10.size
  have hB10 := hB9.trans (hb10.mono (show w.heap.size ≤ _ by omega))
  replace HL0 := Lib.hid (Rep.below (R := SlotsR) HL0.out hb10 (by omega))
  replace HL1 := Lib.hid (Rep.below (R := SlotsR) HL1.out hb10 (by omega))
  replace H4 := Lib.hid (H4.out.below hb10 (by omega))
  replace H5 := Lib.hid (H5.out.below hb10 (by omega))
  replace HE := Lib.hid (HE.out.below hb10 (by omega))
  clear HE
  go_wp2_with fail
  refine (toSlots_any w.heap.size _ l1 w110 hl1 HS1.out HL1.out (by omega)).mono ?_
  rintro e w111 ⟨u_11, rfl, hu11, hb11⟩
  obtain ⟨A_11, c_11, rfl, -⟩ := Rep.slice_form hu11.rd
  have zz111 : w110.heap.size ≤ w111.heap.size := hb11.size
  have hB11 := hB10.trans (hb11.mono (show w.heap.size ≤ _ by omega))
  replace HL0 := Lib.hid (Rep.below (R := SlotsR) HL0.out hb11 (by omega))
  replace HL1 := Lib.hid (Rep.below (R := SlotsR) HL1.out hb11 (by omega))
  replace H4 := Lib.hid (H4.out.below hb11 (by omega))
  replace H5 := Lib.hid (H5.out.below hb11 (by omega))
  have HE := Lib.hid hu11
  go_wp2_with fail
  refine (eqSlots_any _ _ _ _ l1 w111 (by omega) (fun x hx => Nat.le_trans (HS1.out x hx) (by omega)) H5.out.rd HE.out.rd (by omega) (by omega)).mono ?_
  rintro e w112 ⟨rfl, hb12⟩
  have zz112 : w111.heap.size ≤ w112.heap.size := hb12.size
  have hB12 := hB11.trans (hb12.mono (show w.heap.size ≤ _ by omega))
  replace HL0 := Lib.hid (Rep.below (R := SlotsR) HL0.out hb12 (by omega))
  replace HL1 := Lib.hid (Rep.below (R := SlotsR) HL1.out hb12 (by omega))
  replace H4 := Lib.hid (H4.out.below hb12 (by omega))
  replace H5 := Lib.hid (H5.out.below hb12 (by omega))
  replace HE := Lib.hid (HE.out.below hb12 (by omega))
  clear HE
  go_wp2
  go_ret
  exact ⟨rfl, hB12⟩


set_option maxRecDepth 100000 in
theorem laidOut : laidOutB Try.prog = true := by kernel_rfl
set_option maxRecDepth 100000 in
theorem rowed : allRowed Try.prog Try.f7.params.toList = true := by kernel_rfl
set_option maxRecDepth 100000 in
theorem resT : Try.f7.resultTypes = #[4] := by kernel_rfl
set_option maxRecDepth 100000 in
theorem lifted (os : Os) (started : os.Started) (H : Type) (enc : TypeId × Value → H) :
    ReturnsInHanded {} Try.checked os 7 .any (Rows.fnExactSlotsSameSpec.pre6 enc Try.prog Try.f7 Rows.fnExactSlotsSameRow.domain false) (Rows.fnExactSlotsSameSpec.post enc Try.prog Try.f7 false true false false) := by
  refine returnsInHanded_of_change (C := Try.checked) own started (by kernel_rfl) Try.func7
    (ChangeSpec.witness6 (enc := enc) (C := Try.checked) false ⟨#[], #[.slice none 0 0, .slice none 0 0], []⟩ 8 (by kernel_rfl) (by kernel_rfl) (by kernel_rfl) (by kernel_rfl)) ?_
  intro W base args ds gs before hval0 hW hcnd _
  have hval : ∀ (j : Nat) t v, Try.f7.params[j]? = some t → args[j]? = some v → Value.okWide Try.prog W .any base t v := hval0
  have hW' := hW
  obtain ⟨p, q, hA0, hV, rfl, hfz, hnd⟩ := hW
  have hA : DataW.TrodAll enc Try.prog W 0 (fun _ => true) true Try.f7.params.toList args.toList ds p := hA0
  rw [Try.params7] at hA hval
  obtain ⟨v0, vs0, d0, ds0, p0, q0, hargs, rfl, rfl, h0, r0⟩ := trodAll_cons hA
  obtain ⟨v1, vs1, d1, ds1, p1, q1, rfl, rfl, rfl, h1, r1⟩ := trodAll_cons r0
  obtain ⟨rfl, rfl, rfl⟩ := trodAll_nil r1
  obtain rfl : args = #[v0, v1] := by cases args; simp_all
  obtain ⟨rfl, rfl⟩ := trodVars_none hV
  obtain ⟨l0, w0, z0, y0⟩ := open_slots (hval 0 31 v0 rfl rfl) h0
  obtain ⟨l1, w1, z1, y1⟩ := open_slots (hval 1 31 v1 rfl rfl) h1
  clear hA0 hval0
  refine (walk W  _ _ _ _ w0 z0 y0 w1 z1 y1).mono fun e W' ⟨he, hg⟩ => ?_
  subst he
  exact ⟨_, rfl, post_true laidOut rowed hW' rfl resT Try.underlying4 hg (pv := []) rfl⟩

set_option maxRecDepth 100000 in
theorem over : Rows.fnExactSlotsSameRow.holds Try.pinned (OpenSpec.ofChange Rows.fnExactSlotsSameSpec) :=
  OpenClaim.holds_of_wide 7 Try.f7 rfl rfl rfl rfl rfl rfl rfl ⟨rfl, rfl, rfl, rfl, rfl⟩ rfl rfl rfl rfl rfl (by kernel_rfl) Try.func7 (by kernel_rfl)
    (of_decide_eq_true (by kernel_rfl)) (by unfold Func.isWrapper; first | (rw [if_pos (by decide +kernel)]; kernel_rfl) | (rw [if_neg (by decide +kernel)]; exact ⟨rfl, rfl⟩))
    (fun os started H enc _ => lifted os started H enc)

set_option maxRecDepth 100000 in
theorem proved : Rows.FnExactSlotsSameSaid :=
  over
#print axioms proved
end Go.Proofs.Ytkbakcnhhlmpkaa.fnExactSlotsSame
