/- FnExactSlotsOk: for every argument the law answers true: the program's function returns what the reference returns; the listed package variables hold what the program's text lays (tied). -/
import Derived.Test.YtkbakcnhhlmpkaaPost
import Derived.Test.YtkbakcnhhlmpkaaOpenSlot
import Derived.Test.YtkbakcnhhlmpkaaSlotK
import Derived.Test.YtkbakcnhhlmpkaaSlotH
import Derived.Test.YtkbakcnhhlmpkaaSlotIK
namespace Go.Proofs.Ytkbakcnhhlmpkaa.fnExactSlotsOk
open Go.ChangeShapes Go.WideShapes Go.ChangeAt Go.RowKit
open Go.WideMaps Go.WideElems
open Go.ChangeMaps (open_string shut_string)
set_option linter.unusedVariables false

set_option maxRecDepth 100000 in
theorem own : ownKnob Try.prog.godebug = none := by kernel_rfl

set_option maxRecDepth 100000 in
set_option maxHeartbeats 8000000 in
theorem walk (w : World)  (l0 : List SlotD) (u0 : Value) (w0 : SlotsR.rd w.heap.size w [u0] l0) (z0 : l0.length ≤ maxLen) (y0 : ∀ x ∈ l0, x.1.size ≤ maxLen ∧ x.2.1.size ≤ maxLen ∧ x.2.2.length ≤ maxLen ∧ isBytes x.2.2) :
    Calls Try.prog 4 #[u0] w fun e w' => e = .returned (.bool true) ∧ Below w.heap.size w w' := by
  obtain ⟨AL0, cL0, rfl, -⟩ := Rep.slice_form w0
  have HL0 := Lib.hid w0
  have HN0 := Lib.hid z0
  have HY0 := Lib.hid y0
  clear w0 z0 y0
  have HB0 : Hid (Below w.heap.size w w) := Lib.hid (Below.refl w.heap.size w)
  have hB0 : Below w.heap.size w w := Below.refl _ _
  go_enter Try.func4, Try.ntmps4
  go_wp2_with fail
  refine (szSlots_any w.heap.size _ l0 1048576 w HN0.out (fun x hx => ⟨(HY0.out x hx).1, (HY0.out x hx).2.1, (HY0.out x hx).2.2.1⟩) HL0.out (Nat.le_refl _) (by omega) (by omega)).mono ?_
  rintro e w101 ⟨r0, rfl, hr0, hb1⟩
  have zz101 : w.heap.size ≤ w101.heap.size := hb1.size
  have hB1 : Below w.heap.size w w101 := hb1
  have hw1 : Below w.heap.size w w101 := hb1
  replace HL0 := Lib.hid (Rep.below (R := SlotsR) HL0.out hw1 (Nat.le_refl _))
  rcases hr0 with rfl | ⟨hr0, hp0⟩
  · go_wp2
    go_ret
    exact ⟨rfl, hB1⟩
  have hz0 : slotsSz l0 ≤ 1048576 := by omega
  have hl0 := sz_len hz0
  have HS0 := Lib.hid (sz_reply hz0)
  have hq0 : r0 ≤ 1048576 := by omega
  have HR0 := Lib.hid hr0
  have HSZ0 := Lib.hid hz0
  clear hr0 hz0
  go_wp2_with fail
  refine (toSlots_any w.heap.size _ l0 w101 hl0 HS0.out HL0.out (by omega)).mono ?_
  rintro e w102 ⟨u_2, rfl, hu2, hb2⟩
  obtain ⟨A_2, c_2, rfl, -⟩ := Rep.slice_form hu2.rd
  have zz102 : w101.heap.size ≤ w102.heap.size := hb2.size
  have hB2 := hB1.trans (hb2.mono (show w.heap.size ≤ _ by omega))
  replace HL0 := Lib.hid (Rep.below (R := SlotsR) HL0.out hb2 (by omega))
  have H2 := Lib.hid hu2
  go_wp2_with fail
  refine (specSlotsOk_any _ _ l0 w102 (by omega) (fun x hx => ⟨(HY0.out x hx).1, (HY0.out x hx).2.1⟩) H2.out.rd (by omega)).mono ?_
  rintro e w103 ⟨rfl, hb3⟩
  have zz103 : w102.heap.size ≤ w103.heap.size := hb3.size
  have hB3 := hB2.trans (hb3.mono (show w.heap.size ≤ _ by omega))
  replace HL0 := Lib.hid (Rep.below (R := SlotsR) HL0.out hb3 (by omega))
  replace H2 := Lib.hid (H2.out.below hb3 (by omega))
  clear H2
  go_wp2_with fail
  refine (toSlots_any w.heap.size _ l0 w103 hl0 HS0.out HL0.out (by omega)).mono ?_
  rintro e w104 ⟨u_4, rfl, hu4, hb4⟩
  obtain ⟨A_4, c_4, rfl, -⟩ := Rep.slice_form hu4.rd
  have zz104 : w103.heap.size ≤ w104.heap.size := hb4.size
  have hB4 := hB3.trans (hb4.mono (show w.heap.size ≤ _ by omega))
  replace HL0 := Lib.hid (Rep.below (R := SlotsR) HL0.out hb4 (by omega))
  have H4 := Lib.hid hu4
  go_wp2_with fail
  refine (implSlotsOk_any _ _ l0 w104 (by omega) (fun x hx => ⟨(HY0.out x hx).1, (HY0.out x hx).2.1⟩) H4.out.rd (by omega)).mono ?_
  rintro e w105 ⟨rfl, hb5⟩
  have zz105 : w104.heap.size ≤ w105.heap.size := hb5.size
  have hB5 := hB4.trans (hb5.mono (show w.heap.size ≤ _ by omega))
  replace HL0 := Lib.hid (Rep.below (R := SlotsR) HL0.out hb5 (by omega))
  replace H4 := Lib.hid (H4.out.below hb5 (by omega))
  generalize slotsOk l0 = res
  go_wp2_with fail
  refine (toSlots_any w.heap.size _ l0 w105 hl0 HS0.out HL0.out (by omega)).mono ?_
  rintro e w106 ⟨u_6, rfl, hu6, hb6⟩
  obtain ⟨A_6, c_6, rfl, -⟩ := Rep.slice_form hu6.rd
  have zz106 : w105.heap.size ≤ w106.heap.size := hb6.size
  have hB6 := hB5.trans (hb6.mono (show w.heap.size ≤ _ by omega))
  replace HL0 := Lib.hid (Rep.below (R := SlotsR) HL0.out hb6 (by omega))
  replace H4 := Lib.hid (H4.out.below hb6 (by omega))
  have HE := Lib.hid hu6
  go_wp2_with fail
  refine (eqSlots_any _ _ _ _ l0 w106 (by omega) (fun x hx => Nat.le_trans (HS0.out x hx) (by omega)) H4.out.rd HE.out.rd (by omega) (by omega)).mono ?_
  rintro e w107 ⟨rfl, hb7⟩
  have zz107 : w106.heap.size ≤ w107.heap.size := hb7.size
  have hB7 := hB6.trans (hb7.mono (show w.heap.size ≤ _ by omega))
  replace HL0 := Lib.hid (Rep.below (R := SlotsR) HL0.out hb7 (by omega))
  replace H4 := Lib.hid (H4.out.below hb7 (by omega))
  replace HE := Lib.hid (HE.out.below hb7 (by omega))
  clear HE
  go_wp2
  go_ret
  exact ⟨rfl, hB7⟩


set_option maxRecDepth 100000 in
theorem laidOut : laidOutB Try.prog = true := by kernel_rfl
set_option maxRecDepth 100000 in
theorem rowed : allRowed Try.prog Try.f4.params.toList = true := by kernel_rfl
set_option maxRecDepth 100000 in
theorem resT : Try.f4.resultTypes = #[4] := by kernel_rfl
set_option maxRecDepth 100000 in
theorem lifted (os : Os) (started : os.Started) (H : Type) (enc : TypeId × Value → H) :
    ReturnsInHanded {} Try.checked os 4 .any (Rows.fnExactSlotsOkSpec.pre6 enc Try.prog Try.f4 Rows.fnExactSlotsOkRow.domain false) (Rows.fnExactSlotsOkSpec.post enc Try.prog Try.f4 false true false false) := by
  refine returnsInHanded_of_change (C := Try.checked) own started (by kernel_rfl) Try.func4
    (ChangeSpec.witness6 (enc := enc) (C := Try.checked) false ⟨#[], #[.slice none 0 0], []⟩ 8 (by kernel_rfl) (by kernel_rfl) (by kernel_rfl) (by kernel_rfl)) ?_
  intro W base args ds gs before hval0 hW hcnd _
  have hval : ∀ (j : Nat) t v, Try.f4.params[j]? = some t → args[j]? = some v → Value.okWide Try.prog W .any base t v := hval0
  have hW' := hW
  obtain ⟨p, q, hA0, hV, rfl, hfz, hnd⟩ := hW
  have hA : DataW.TrodAll enc Try.prog W 0 (fun _ => true) true Try.f4.params.toList args.toList ds p := hA0
  rw [Try.params4] at hA hval
  obtain ⟨v0, vs0, d0, ds0, p0, q0, hargs, rfl, rfl, h0, r0⟩ := trodAll_cons hA
  obtain ⟨rfl, rfl, rfl⟩ := trodAll_nil r0
  obtain rfl : args = #[v0] := by cases args; simp_all
  obtain ⟨rfl, rfl⟩ := trodVars_none hV
  obtain ⟨l0, w0, z0, y0⟩ := open_slots (hval 0 31 v0 rfl rfl) h0
  clear hA0 hval0
  refine (walk W  _ _ w0 z0 y0).mono fun e W' ⟨he, hg⟩ => ?_
  subst he
  exact ⟨_, rfl, post_true laidOut rowed hW' rfl resT Try.underlying4 hg (pv := []) rfl⟩

set_option maxRecDepth 100000 in
theorem over : Rows.fnExactSlotsOkRow.holds Try.pinned (OpenSpec.ofChange Rows.fnExactSlotsOkSpec) :=
  OpenClaim.holds_of_wide 4 Try.f4 rfl rfl rfl rfl rfl rfl rfl ⟨rfl, rfl, rfl, rfl, rfl⟩ rfl rfl rfl rfl rfl (by kernel_rfl) Try.func4 (by kernel_rfl)
    (of_decide_eq_true (by kernel_rfl)) (by unfold Func.isWrapper; first | (rw [if_pos (by decide +kernel)]; kernel_rfl) | (rw [if_neg (by decide +kernel)]; exact ⟨rfl, rfl⟩))
    (fun os started H enc _ => lifted os started H enc)

set_option maxRecDepth 100000 in
theorem proved : Rows.FnExactSlotsOkSaid :=
  over
#print axioms proved
end Go.Proofs.Ytkbakcnhhlmpkaa.fnExactSlotsOk
