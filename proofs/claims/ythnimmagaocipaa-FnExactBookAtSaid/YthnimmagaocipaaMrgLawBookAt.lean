/- FnExactBookAt: for every argument the law answers true: the program's function returns what the reference returns; the listed package variables hold what the program's text lays (tied). -/
import Derived.Test.YthnimmagaocipaaMrg1
import Derived.Test.YthnimmagaocipaaMrg2
import Derived.Test.YthnimmagaocipaaMrg3
import Derived.Deep.RegionHeld3
namespace Go.Proofs.Ythnimmagaocipaa.fnExactBookAt
open Go.ChangeShapes Go.WideShapes Go.ChangeAt Go.RowKit
open Go.WideMaps Go.WideElems
open Go.ChangeMaps (open_string shut_string)
set_option linter.unusedVariables false

set_option maxRecDepth 100000 in
theorem own : ownKnob Try.prog.godebug = none := by kernel_rfl

set_option maxRecDepth 100000 in
set_option maxHeartbeats 8000000 in
theorem walk (w : World)  (l0 : BookD) (vb0 : Value) (a1 : ByteArray) (w0 : AcctsR.rd w.heap.size w [vb0] l0) (z0 : bookBig l0) (w1 : a1.size ≤ maxLen) :
    Calls Try.prog 3 #[.agg #[vb0], .string a1] w fun e w' => e = .returned (.bool true) ∧ Below w.heap.size w w' := by
  obtain ⟨AB0, cB0, rfl, -⟩ := Rep.slice_form w0
  have HX0 := Lib.hid w0
  have HY0 := Lib.hid z0
  clear w0 z0
  have HB0 : Hid (Below w.heap.size w (w.alloc (.cells #[.slice AB0 l0.length cB0] 24))) := Lib.hid ((Below.refl w.heap.size w).alloc (Nat.le_refl _) (.cells #[.slice AB0 l0.length cB0] 24))
  have HX : Hid (∀ wr, Below (w.heap.size + 1) (w.alloc (.cells #[.slice AB0 l0.length cB0] 24)) wr → wr.cell? ⟨w.heap.size, 0, none⟩ = some (.slice AB0 l0.length cB0)) := Lib.hid fun wr hw => (hw.cell (p := ⟨w.heap.size, 0, none⟩) (show w.heap.size < _ by omega)).trans (by simp)
  clear w1
  by_cases hsz : (1048576 : Int) < a1.size
  · go_enter Try.func3, Try.ntmps3
    go_wp2
    go_ret
    exact ⟨rfl, HB0.out⟩
  go_enter Try.func3, Try.ntmps3
  go_wp2_with fail
  refine (szBook_any w.heap.size _ l0 1048576 (w.alloc (.cells #[.slice AB0 l0.length cB0] 24)) HY0.out (Rep.below (R := AcctsR) HX0.out HB0.out (Nat.le_refl _)) (by first | omega | (simp <;> omega)) (by omega) (by omega)).mono ?_
  rintro e w101 ⟨r0, rfl, hr0, hb1⟩
  have zz101 : w.heap.size + 1 ≤ w101.heap.size := by have := hb1.size; simp at this; omega
  have hB1 : Below (w.heap.size + 1) (w.alloc (.cells #[.slice AB0 l0.length cB0] 24)) w101 := hb1.mono (by simp <;> omega)
  have hw1 : Below w.heap.size w w101 := HB0.out.trans (hb1.mono (by simp <;> omega))
  replace HX0 := Lib.hid (Rep.below (R := AcctsR) HX0.out hw1 (Nat.le_refl _))
  have x_0 := HX.out w101 hB1
  rcases hr0 with rfl | ⟨hr0, hp0⟩
  · go_wp2
    go_ret
    exact ⟨rfl, (HB0.out.trans (hB1.mono (by first | omega | (simp <;> omega))))⟩
  have hxz0 : bookSz l0 ≤ 1048576 := by omega
  have HS0 := Lib.hid (book_small hxz0)
  have hq0 : r0 ≤ 1048576 := by omega
  have HR0 := Lib.hid hr0
  have HXZ0 := Lib.hid hxz0
  clear hr0 hxz0
  go_wp2_with fail
  refine (toBook_any w.heap.size _ l0 w101 HS0.out HX0.out (by omega)).mono ?_
  rintro e w102 ⟨u_2, rfl, hu2, hb2⟩
  obtain ⟨A_2, c_2, rfl, -⟩ := Rep.slice_form (AcctsIv.rd hu2)
  have zz102 : w101.heap.size ≤ w102.heap.size := hb2.size
  have hB2 := hB1.trans (hb2.mono (show w.heap.size + 1 ≤ _ by omega))
  replace HX0 := Lib.hid (Rep.below (R := AcctsR) HX0.out hb2 (by omega))
  clear x_0
  have x_0 := HX.out w102 hB2
  have H2 := Lib.hid hu2
  go_wp2_with fail
  refine (specBookAt_any _ _ l0 a1 w102 HS0.out.1 (AcctsIv.rd H2.out) (by omega)).mono ?_
  rintro e w103 ⟨rfl, hb3⟩
  have zz103 : w102.heap.size ≤ w103.heap.size := hb3.size
  have hB3 := hB2.trans (hb3.mono (show w.heap.size + 1 ≤ _ by omega))
  replace HX0 := Lib.hid (Rep.below (R := AcctsR) HX0.out hb3 (by omega))
  replace H2 := Lib.hid (AcctsIv.below H2.out hb3 (by omega))
  clear x_0
  have x_0 := HX.out w103 hB3
  clear H2
  go_wp2_with fail
  refine (toBook_any w.heap.size _ l0 w103 HS0.out HX0.out (by omega)).mono ?_
  rintro e w104 ⟨u_4, rfl, hu4, hb4⟩
  obtain ⟨A_4, c_4, rfl, -⟩ := Rep.slice_form (AcctsIv.rd hu4)
  have zz104 : w103.heap.size ≤ w104.heap.size := hb4.size
  have hB4 := hB3.trans (hb4.mono (show w.heap.size + 1 ≤ _ by omega))
  replace HX0 := Lib.hid (Rep.below (R := AcctsR) HX0.out hb4 (by omega))
  clear x_0
  have x_0 := HX.out w104 hB4
  have H4 := Lib.hid hu4
  have yy4_0 : w.heap.size < w104.heap.size := by omega
  go_wp2_with fail
  have hb5 := (Below.refl w104.heap.size w104).alloc (Nat.le_refl _) (.cells #[.slice A_4 l0.length c_4] 29)
  have hX4 := heap_alloc_new w104 (.cells #[.slice A_4 l0.length c_4] 29)
  generalize w104.alloc (.cells #[.slice A_4 l0.length c_4] 29) = w105 at hb5 hX4 ⊢
  have zz105 : w104.heap.size ≤ w105.heap.size := hb5.size
  have zl5 : w104.heap.size < w105.heap.size := lt_of_block hX4
  have hB5 := hB4.trans (hb5.mono (show w.heap.size + 1 ≤ _ by omega))
  replace HX0 := Lib.hid (Rep.below (R := AcctsR) HX0.out hb5 (by omega))
  replace H4 := Lib.hid (AcctsIv.below H4.out hb5 (by omega))
  have X4 := Lib.hid hX4
  clear hX4
  clear x_0
  have x_0 := HX.out w105 hB5
  have X4c0 := cell_of_row _ _ 0 _ _ (0, 0) X4.out
  have X4c1 := cell_of_row _ _ 1 _ _ (0, 0) X4.out
  have X4c2 := cell_of_row _ _ 2 _ _ (0, 0) X4.out
  have X4c3 := cell_of_row _ _ 3 _ _ (0, 0) X4.out
  have X4c4 := cell_of_row _ _ 4 _ _ (0, 0) X4.out
  have X4c5 := cell_of_row _ _ 5 _ _ (0, 0) X4.out
  have X4c6 := cell_of_row _ _ 6 _ _ (0, 0) X4.out
  have X4c7 := cell_of_row _ _ 7 _ _ (0, 0) X4.out
  have X4c8 := cell_of_row _ _ 8 _ _ (0, 0) X4.out
  have X4c9 := cell_of_row _ _ 9 _ _ (0, 0) X4.out
  have X4c10 := cell_of_row _ _ 10 _ _ (0, 0) X4.out
  simp only [List.getElem?_toArray, List.getElem?_cons_zero, List.getElem?_cons_succ] at X4c0 X4c1 X4c2 X4c3 X4c4 X4c5 X4c6 X4c7 X4c8 X4c9 X4c10
  go_wp2_with fail
  refine (implBookAt_any _ _ l0 a1 w105 HS0.out.1 (AcctsIv.rd H4.out) (by omega)).mono ?_
  rintro e w106 ⟨rfl, hb6⟩
  have zz106 : w105.heap.size ≤ w106.heap.size := hb6.size
  have hB6 := hB5.trans (hb6.mono (show w.heap.size + 1 ≤ _ by omega))
  replace HX0 := Lib.hid (Rep.below (R := AcctsR) HX0.out hb6 (by omega))
  replace H4 := Lib.hid (AcctsIv.below H4.out hb6 (by omega))
  replace X4 := Lib.hid ((hb6.block _ (by omega)).trans X4.out)
  clear x_0
  have x_0 := HX.out w106 hB6
  clear X4c0
  have X4c0 := cell_of_row _ _ 0 _ _ (0, 0) X4.out
  simp only [List.getElem?_toArray, List.getElem?_cons_zero] at X4c0
  generalize findA l0 a1 = res
  go_wp2
  have hD : Below w106.heap.size w106 w106.drew := (Below.refl _ _).drew
  have zD : w106.drew.heap.size = w106.heap.size := rfl
  go_region_held3 (fun V => V.cell? ⟨w104.heap.size, 0, none⟩ = some (.slice A_4 l0.length c_4) ∧ V.cell? ⟨w.heap.size, 0, none⟩ = some (.slice AB0 l0.length cB0)) (go_keep) (first | (go_at_call 7; refine (toBook_any w.heap.size _ l0 w106.drew HS0.out (Rep.below (R := AcctsR) HX0.out hD (by omega)) (show w.heap.size ≤ w106.heap.size by omega)).mono ?_; rintro e w107 ⟨uq, rfl, huq, hbq⟩; obtain ⟨Aq, cq, rfl, -⟩ := Rep.slice_form (AcctsIv.rd huq); have zq := hbq.size; have qa0 := (hbq.cell (p := ⟨w104.heap.size, 0, none⟩) (show w104.heap.size < _ by omega)).trans X4c0; have qa1 := (hbq.cell (p := ⟨w.heap.size, 0, none⟩) (show w.heap.size < _ by omega)).trans x_0) | (go_at_call 9; refine (eqBook_any _ _ _ _ l0 w107 HS0.out (AcctsIv.rd (AcctsIv.below (AcctsIv.below H4.out hD (by omega)) hbq (by omega))) (AcctsIv.rd huq) (by omega) (by omega)).mono ?_; rintro e w108 ⟨rfl, hbr⟩; have qb0 := (hbr.cell (p := ⟨w104.heap.size, 0, none⟩) (show w104.heap.size < _ by omega)).trans qa0; have qb1 := (hbr.cell (p := ⟨w.heap.size, 0, none⟩) (show w.heap.size < _ by omega)).trans qa1) | fail)
  have hb8 : Below w106.heap.size w106 w108 := (hD.trans (hbq.mono (show w106.heap.size ≤ _ by omega))).trans (hbr.mono (show w106.heap.size ≤ _ by omega))
  have hB8 := hB6.trans (hb8.mono (show w.heap.size + 1 ≤ _ by omega))
  have zz108 : w106.heap.size ≤ w108.heap.size := hb8.size
  clear hbq hbr huq qa0 qb0 qa1 qb1 hD zD
  replace HX0 := Lib.hid (Rep.below (R := AcctsR) HX0.out hb8 (by omega))
  replace H4 := Lib.hid (AcctsIv.below H4.out hb8 (by omega))
  replace X4 := Lib.hid ((hb8.block _ (by omega)).trans X4.out)
  clear x_0
  have x_0 := HX.out w108 hB8
  clear X4c0
  have X4c0 := cell_of_row _ _ 0 _ _ (0, 0) X4.out
  simp only [List.getElem?_toArray, List.getElem?_cons_zero] at X4c0
  go_wp2
  go_ret
  exact ⟨rfl, (HB0.out.trans (hB8.mono (by first | omega | (simp <;> omega))))⟩


set_option maxRecDepth 100000 in
theorem laidOut : laidOutB Try.prog = true := by kernel_rfl
set_option maxRecDepth 100000 in
theorem rowed : allRowed Try.prog Try.f3.params.toList = true := by kernel_rfl
set_option maxRecDepth 100000 in
theorem resT : Try.f3.resultTypes = #[4] := by kernel_rfl
set_option maxRecDepth 100000 in
theorem lifted (os : Os) (started : os.Started) (H : Type) (enc : TypeId × Value → H) :
    ReturnsInHanded {} Try.checked os 3 .any (Rows.fnExactBookAtSpec.pre6 enc Try.prog Try.f3 Rows.fnExactBookAtRow.domain false) (Rows.fnExactBookAtSpec.post enc Try.prog Try.f3 false true false false) := by
  refine returnsInHanded_of_change (C := Try.checked) own started (by kernel_rfl) Try.func3
    (ChangeSpec.witness6 (enc := enc) (C := Try.checked) false ⟨#[], #[.agg #[.slice none 0 0], .string ByteArray.empty], []⟩ 8 (by kernel_rfl) (by kernel_rfl) (by kernel_rfl) (by kernel_rfl)) ?_
  intro W base args ds gs before hval0 hW hcnd _
  have hval : ∀ (j : Nat) t v, Try.f3.params[j]? = some t → args[j]? = some v → Value.okWide Try.prog W .any base t v := hval0
  have hW' := hW
  obtain ⟨p, q, hA0, hV, rfl, hfz, hnd⟩ := hW
  have hA : DataW.TrodAll enc Try.prog W 0 (fun _ => true) true Try.f3.params.toList args.toList ds p := hA0
  rw [Try.params3] at hA hval
  obtain ⟨v0, vs0, d0, ds0, p0, q0, hargs, rfl, rfl, h0, r0⟩ := trodAll_cons hA
  obtain ⟨v1, vs1, d1, ds1, p1, q1, rfl, rfl, rfl, h1, r1⟩ := trodAll_cons r0
  obtain ⟨rfl, rfl, rfl⟩ := trodAll_nil r1
  obtain rfl : args = #[v0, v1] := by cases args; simp_all
  obtain ⟨rfl, rfl⟩ := trodVars_none hV
  obtain ⟨l0, vb0, rfl, w0, z0⟩ := open_book (hval 0 24 v0 rfl rfl) h0
  obtain ⟨a1, rfl, rfl, rfl, w1⟩ := open_string Try.underlying9 (hval 1 9 v1 rfl rfl) h1
  clear hA0 hval0
  refine (walk W  _ _ _ w0 z0 w1).mono fun e W' ⟨he, hg⟩ => ?_
  subst he
  exact ⟨_, rfl, post_true laidOut rowed hW' rfl resT Try.underlying4 hg (pv := []) rfl⟩

set_option maxRecDepth 100000 in
theorem over : Rows.fnExactBookAtRow.holds Try.pinned (OpenSpec.ofChange Rows.fnExactBookAtSpec) :=
  OpenClaim.holds_of_wide 3 Try.f3 rfl rfl rfl rfl rfl rfl rfl ⟨rfl, rfl, rfl, rfl, rfl⟩ rfl rfl rfl rfl rfl (by kernel_rfl) Try.func3 (by kernel_rfl)
    (of_decide_eq_true (by kernel_rfl)) (by unfold Func.isWrapper; first | (rw [if_pos (by decide +kernel)]; kernel_rfl) | (rw [if_neg (by decide +kernel)]; exact ⟨rfl, rfl⟩))
    (fun os started H enc _ => lifted os started H enc)

set_option maxRecDepth 100000 in
theorem proved : Rows.FnExactBookAtSaid :=
  over
#print axioms proved
end Go.Proofs.Ythnimmagaocipaa.fnExactBookAt
