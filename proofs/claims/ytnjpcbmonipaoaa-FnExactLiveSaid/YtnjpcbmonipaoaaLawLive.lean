/- FnExactLive: for every argument the law answers true: the program's function returns what the reference returns; the listed package variables hold what the program's text lays (tied). -/
import Derived.Test.YtnjpcbmonipaoaaPost
import Derived.Test.YtnjpcbmonipaoaaHoldIO
import Derived.Test.YtnjpcbmonipaoaaOpenHold
import Derived.Test.YtnjpcbmonipaoaaHoldF
namespace Go.Proofs.Ytnjpcbmonipaoaa.fnExactLive
open Go.ChangeShapes Go.WideShapes Go.ChangeAt Go.RowKit
open Go.WideMaps Go.WideElems
open Go.ChangeMaps (open_string shut_string)
set_option linter.unusedVariables false

set_option maxRecDepth 100000 in
theorem own : ownKnob Try.prog.godebug = none := by kernel_rfl

set_option maxRecDepth 100000 in
set_option maxHeartbeats 8000000 in
theorem walk (w : World)  (x0 : HoldD) (a1 : Int) (w0 : x0.1.size ≤ maxLen) (w1 : (Lit.int .i64 a1).wf = true) :
    Calls Try.prog 6 #[.agg #[.string x0.1, .int .i64 x0.2.1, .int .i64 x0.2.2], .int .i64 a1] w fun e w' => e = .returned (.bool true) ∧ Below w.heap.size w w' := by
  have HW0 := Lib.hid w0
  clear w0
  have HB0 : Hid (Below w.heap.size w (w.alloc (.cells #[.string x0.1, .int .i64 x0.2.1, .int .i64 x0.2.2] 24))) := Lib.hid ((Below.refl w.heap.size w).alloc (Nat.le_refl _) (.cells #[.string x0.1, .int .i64 x0.2.1, .int .i64 x0.2.2] 24))
  have HX : Hid (∀ wr, Below (w.heap.size + 1) (w.alloc (.cells #[.string x0.1, .int .i64 x0.2.1, .int .i64 x0.2.2] 24)) wr → wr.cell? ⟨w.heap.size, 0, none⟩ = some (.string x0.1) ∧ wr.cell? ⟨w.heap.size, 1, none⟩ = some (.int .i64 x0.2.1) ∧ wr.cell? ⟨w.heap.size, 2, none⟩ = some (.int .i64 x0.2.2)) := Lib.hid fun wr hw => ⟨(hw.cell (p := ⟨w.heap.size, 0, none⟩) (show w.heap.size < _ by omega)).trans (by simp), (hw.cell (p := ⟨w.heap.size, 1, none⟩) (show w.heap.size < _ by omega)).trans (by simp), (hw.cell (p := ⟨w.heap.size, 2, none⟩) (show w.heap.size < _ by omega)).trans (by simp)⟩
  go_enter Try.func6, Try.ntmps6
  go_wp2_with fail
  refine (szHold_any x0 1048576 (w.alloc (.cells #[.string x0.1, .int .i64 x0.2.1, .int .i64 x0.2.2] 24)) HW0.out (by omega) (by omega)).mono ?_
  rintro e w101 ⟨r0, rfl, hr0, hb1⟩
  have zz101 : w.heap.size + 1 ≤ w101.heap.size := by have := hb1.size; simp at this; omega
  have hB1 : Below (w.heap.size + 1) (w.alloc (.cells #[.string x0.1, .int .i64 x0.2.1, .int .i64 x0.2.2] 24)) w101 := hb1.mono (by simp <;> omega)
  have hw1 : Below w.heap.size w w101 := HB0.out.trans (hb1.mono (by simp <;> omega))
  obtain ⟨x_0, x_1, x_2⟩ := HX.out w101 hB1
  rcases hr0 with rfl | ⟨hr0, hp0⟩
  · go_wp2
    go_ret
    exact ⟨rfl, (HB0.out.trans (hB1.mono (by first | omega | (simp <;> omega))))⟩
  have hq0 : r0 ≤ 1048576 := by omega
  have HR0 := Lib.hid hr0
  clear hr0
  go_wp2_with fail
  refine (toHold_any x0 w101).mono ?_
  rintro e w102 ⟨rfl, hb2⟩
  have zz102 : w101.heap.size ≤ w102.heap.size := hb2.size
  have hB2 := hB1.trans (hb2.mono (show w.heap.size + 1 ≤ _ by omega))
  clear x_0 x_1 x_2
  obtain ⟨x_0, x_1, x_2⟩ := HX.out w102 hB2
  go_wp2_with fail
  refine (specLive_any x0 a1 w102).mono ?_
  rintro e w103 ⟨rfl, hb3⟩
  have zz103 : w102.heap.size ≤ w103.heap.size := hb3.size
  have hB3 := hB2.trans (hb3.mono (show w.heap.size + 1 ≤ _ by omega))
  clear x_0 x_1 x_2
  obtain ⟨x_0, x_1, x_2⟩ := HX.out w103 hB3
  go_wp2_with fail
  refine (toHold_any x0 w103).mono ?_
  rintro e w104 ⟨rfl, hb4⟩
  have zz104 : w103.heap.size ≤ w104.heap.size := hb4.size
  have hB4 := hB3.trans (hb4.mono (show w.heap.size + 1 ≤ _ by omega))
  clear x_0 x_1 x_2
  obtain ⟨x_0, x_1, x_2⟩ := HX.out w104 hB4
  go_wp2_with fail
  refine (implLive_any x0 a1 w104).mono ?_
  rintro e w105 ⟨rfl, hb5⟩
  have zz105 : w104.heap.size ≤ w105.heap.size := hb5.size
  have hB5 := hB4.trans (hb5.mono (show w.heap.size + 1 ≤ _ by omega))
  clear x_0 x_1 x_2
  obtain ⟨x_0, x_1, x_2⟩ := HX.out w105 hB5
  generalize live a1 x0 = res
  go_wp2
  go_ret
  exact ⟨rfl, (HB0.out.trans (hB5.mono (by first | omega | (simp <;> omega))))⟩


set_option maxRecDepth 100000 in
theorem laidOut : laidOutB Try.prog = true := by kernel_rfl
set_option maxRecDepth 100000 in
theorem rowed : allRowed Try.prog Try.f6.params.toList = true := by kernel_rfl
set_option maxRecDepth 100000 in
theorem resT : Try.f6.resultTypes = #[4] := by kernel_rfl
set_option maxRecDepth 100000 in
theorem lifted (os : Os) (started : os.Started) (H : Type) (enc : TypeId × Value → H) :
    ReturnsInHanded {} Try.checked os 6 .any (Rows.fnExactLiveSpec.pre6 enc Try.prog Try.f6 Rows.fnExactLiveRow.domain false) (Rows.fnExactLiveSpec.post enc Try.prog Try.f6 false true false false) := by
  refine returnsInHanded_of_change (C := Try.checked) own started (by kernel_rfl) Try.func6
    (ChangeSpec.witness6 (enc := enc) (C := Try.checked) false ⟨#[], #[.agg #[.string ByteArray.empty, .int .i64 0, .int .i64 0], .int .i64 0], []⟩ 8 (by kernel_rfl) (by kernel_rfl) (by kernel_rfl) (by kernel_rfl)) ?_
  intro W base args ds gs before hval0 hW hcnd _
  have hval : ∀ (j : Nat) t v, Try.f6.params[j]? = some t → args[j]? = some v → Value.okWide Try.prog W .any base t v := hval0
  have hW' := hW
  obtain ⟨p, q, hA0, hV, rfl, hfz, hnd⟩ := hW
  have hA : DataW.TrodAll enc Try.prog W 0 (fun _ => true) true Try.f6.params.toList args.toList ds p := hA0
  rw [Try.params6] at hA hval
  obtain ⟨v0, vs0, d0, ds0, p0, q0, hargs, rfl, rfl, h0, r0⟩ := trodAll_cons hA
  obtain ⟨v1, vs1, d1, ds1, p1, q1, rfl, rfl, rfl, h1, r1⟩ := trodAll_cons r0
  obtain ⟨rfl, rfl, rfl⟩ := trodAll_nil r1
  obtain rfl : args = #[v0, v1] := by cases args; simp_all
  obtain ⟨rfl, rfl⟩ := trodVars_none hV
  obtain ⟨x0, rfl, w0⟩ := open_hold (hval 0 24 v0 rfl rfl) h0
  obtain ⟨a1, rfl, rfl, rfl, w1⟩ := open_int Try.underlying3 (hval 1 3 v1 rfl rfl) h1
  clear hA0 hval0
  refine (walk W  _ _ w0 w1).mono fun e W' ⟨he, hg⟩ => ?_
  subst he
  exact ⟨_, rfl, post_true laidOut rowed hW' rfl resT Try.underlying4 hg (pv := []) rfl⟩

set_option maxRecDepth 100000 in
theorem over : Rows.fnExactLiveRow.holds Try.pinned (OpenSpec.ofChange Rows.fnExactLiveSpec) :=
  OpenClaim.holds_of_wide 6 Try.f6 rfl rfl rfl rfl rfl rfl rfl ⟨rfl, rfl, rfl, rfl, rfl⟩ rfl rfl rfl rfl rfl (by kernel_rfl) Try.func6 (by kernel_rfl)
    (of_decide_eq_true (by kernel_rfl)) (by unfold Func.isWrapper; first | (rw [if_pos (by decide +kernel)]; kernel_rfl) | (rw [if_neg (by decide +kernel)]; exact ⟨rfl, rfl⟩))
    (fun os started H enc _ => lifted os started H enc)

set_option maxRecDepth 100000 in
theorem proved : Rows.FnExactLiveSaid :=
  over
#print axioms proved
end Go.Proofs.Ytnjpcbmonipaoaa.fnExactLive
