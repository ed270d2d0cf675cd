/- FnExactBare: for every argument the law answers true: the program's function returns what the reference returns; the listed package variables hold what the program's text lays (tied). -/
import Derived.Test.YtdjlhijaadombaaDoorPost
import Derived.Test.YtdjlhijaadombaaDoorCards
import Derived.Test.YtdjlhijaadombaaDoorTie
import Derived.Stop.LaidErr
import Derived.LaidMore
import Derived.Stop.Joined
import Derived.SevenTiedAt
import Derived.WalkSmall
import Derived.Test.YtdjlhijaadombaaDoorCodes
import Derived.Test.YtdjlhijaadombaaDoorMrg2
namespace Go.Proofs.YtdjlhijaadombaaDoor.fnExactBare
open Go.ChangeShapes Go.WideShapes Go.ChangeAt Go.RowKit
open Go.WideMaps Go.WideElems
open Go.ChangeMaps (open_string shut_string)
set_option linter.unusedVariables false

set_option maxRecDepth 100000 in
theorem own : ownKnob Tryd.prog.godebug = none := by kernel_rfl

set_option maxRecDepth 100000 in
set_option maxHeartbeats 8000000 in
theorem walk (w : World) (p0 : Addr) (hc0 : w.cell? ⟨2, 0, none⟩ = some (.iface 114 (.pointer (some p0)))) (hct : codesIn w) (a0 : ByteArray) (a1 : Int) (w0 : a0.size ≤ maxLen) (w1 : (Lit.int .i64 a1).wf = true) :
    Calls Tryd.prog 5 #[.string a0, .int .i64 a1] w fun e w' => e = .returned (.bool true) ∧ Below w.heap.size w w' := by
  have HB0 : Hid (Below w.heap.size w w) := Lib.hid (Below.refl _ _)
  have hB0 : Below w.heap.size w w := Below.refl _ _
  have HCT : Hid (∀ w', Below w.heap.size w w' → codesIn w') := Lib.hid fun w' h => hct.below h
  clear hc0 hct
  by_cases hbig : (1048576 : Int) < (a0.size : Int)
  · go_enter Tryd.func5, Tryd.ntmps5
    go_wp2
    go_ret
    exact ⟨rfl, HB0.out⟩
  clear w1
  go_enter Tryd.func5, Tryd.ntmps5
  have hwl := bare_len a0 a1
  have hwt := bare_size a0 a1
  go_wp2_with fail
  refine (specBare_any a0 a1 w w0).mono ?_
  rintro e w1 ⟨u1, rfl, hu1, hb1⟩
  obtain ⟨A1, c1, rfl, -⟩ := Rep.slice_form hu1.rd
  have z1 : w.heap.size ≤ w1.heap.size := hb1.size
  have hB1 := hB0.trans (hb1.mono (show w.heap.size ≤ _ by omega))
  have HW := Lib.hid hu1
  generalize hwo : bareRes a0 a1 = pr at hwl hwt HW ⊢
  have HWO := Lib.hid hwo
  clear hwo
  go_wp2_with fail
  have hb2 := (Below.refl w1.heap.size w1).alloc (Nat.le_refl _) (.cells #[.string pr.1.1, .slice A1 pr.1.2.length c1] 29)
  have hXW := heap_alloc_new w1 (.cells #[.string pr.1.1, .slice A1 pr.1.2.length c1] 29)
  generalize w1.alloc (.cells #[.string pr.1.1, .slice A1 pr.1.2.length c1] 29) = w2 at hb2 hXW ⊢
  have z2 : w1.heap.size ≤ w2.heap.size := hb2.size
  have zl2 : w1.heap.size < w2.heap.size := lt_of_block hXW
  have hB2 := hB1.trans (hb2.mono (show w.heap.size ≤ _ by omega))
  replace HW := Lib.hid (HW.out.below hb2 (by omega))
  have XW := Lib.hid hXW
  clear hXW
  have XWc0 := cell_of_row _ _ 0 _ _ (0, 0) XW.out
  have XWc1 := cell_of_row _ _ 1 _ _ (0, 0) XW.out
  simp only [List.getElem?_toArray, List.getElem?_cons_zero, List.getElem?_cons_succ] at XWc0 XWc1
  go_wp2_with fail
  refine (implBare_any a0 a1 w2 w0 (HCT.out _ (HB0.out.trans (hB2.mono (by omega))))).mono ?_
  rintro e w3 ⟨u3, rfl, hu3, hb3⟩
  rw [HWO.out] at hu3 ⊢
  obtain ⟨A3, c3, rfl, -⟩ := Rep.slice_form hu3.rd
  have z3 : w2.heap.size ≤ w3.heap.size := hb3.size
  have hB3 := hB2.trans (hb3.mono (show w.heap.size ≤ _ by omega))
  replace HW := Lib.hid (HW.out.below hb3 (by omega))
  replace XW := Lib.hid ((hb3.block _ (by omega)).trans XW.out)
  have HG := Lib.hid hu3
  clear XWc0 XWc1
  have XWc0 := cell_of_row _ _ 0 _ _ (0, 0) XW.out
  have XWc1 := cell_of_row _ _ 1 _ _ (0, 0) XW.out
  simp only [List.getElem?_toArray, List.getElem?_cons_zero, List.getElem?_cons_succ] at XWc0 XWc1
  have yy3XW : w1.heap.size < w3.heap.size := by omega
  go_wp2_with fail
  have hb4 := (Below.refl w3.heap.size w3).alloc (Nat.le_refl _) (.cells #[.string pr.1.1, .slice A3 pr.1.2.length c3] 29)
  have hXG := heap_alloc_new w3 (.cells #[.string pr.1.1, .slice A3 pr.1.2.length c3] 29)
  generalize w3.alloc (.cells #[.string pr.1.1, .slice A3 pr.1.2.length c3] 29) = w4 at hb4 hXG ⊢
  have z4 : w3.heap.size ≤ w4.heap.size := hb4.size
  have zl4 : w3.heap.size < w4.heap.size := lt_of_block hXG
  have hB4 := hB3.trans (hb4.mono (show w.heap.size ≤ _ by omega))
  replace HW := Lib.hid (HW.out.below hb4 (by omega))
  replace XW := Lib.hid ((hb4.block _ (by omega)).trans XW.out)
  replace HG := Lib.hid (HG.out.below hb4 (by omega))
  have XG := Lib.hid hXG
  clear hXG
  have XGc0 := cell_of_row _ _ 0 _ _ (0, 0) XG.out
  have XGc1 := cell_of_row _ _ 1 _ _ (0, 0) XG.out
  simp only [List.getElem?_toArray, List.getElem?_cons_zero, List.getElem?_cons_succ] at XGc0 XGc1
  go_wp2_with fail
  refine (eqMsg_any _ _ _ _ pr.1 w4 (show pr.1.1.size ≤ 1048576 by omega) (by omega) HG.out.rd HW.out.rd (by omega) (by omega)).mono ?_
  rintro e w5 ⟨rfl, hb5⟩
  have z5 : w4.heap.size ≤ w5.heap.size := hb5.size
  have hB5 := hB4.trans (hb5.mono (show w.heap.size ≤ _ by omega))
  replace HW := Lib.hid (HW.out.below hb5 (by omega))
  replace XW := Lib.hid ((hb5.block _ (by omega)).trans XW.out)
  replace HG := Lib.hid (HG.out.below hb5 (by omega))
  replace XG := Lib.hid ((hb5.block _ (by omega)).trans XG.out)
  clear XWc0 XWc1
  clear XGc0 XGc1
  have XWc0 := cell_of_row _ _ 0 _ _ (0, 0) XW.out
  have XWc1 := cell_of_row _ _ 1 _ _ (0, 0) XW.out
  simp only [List.getElem?_toArray, List.getElem?_cons_zero, List.getElem?_cons_succ] at XWc0 XWc1
  have XGc0 := cell_of_row _ _ 0 _ _ (0, 0) XG.out
  have XGc1 := cell_of_row _ _ 1 _ _ (0, 0) XG.out
  simp only [List.getElem?_toArray, List.getElem?_cons_zero, List.getElem?_cons_succ] at XGc0 XGc1
  go_wp2_with fail
  refine (markMsg_any _ _ _ pr.1 1 w5 (by omega) (by decide) (by decide) HG.out (by omega)).mono ?_
  rintro e w6 ⟨rfl, hmk6, ht6⟩
  have z6 : w5.heap.size ≤ w6.heap.size := ht6.size
  have hB6 := hB5.trans (ht6.below (show w.heap.size ≤ _ by omega) (by omega))
  replace HW := Lib.hid (HW.out.turned ht6 (by omega) (by omega))
  replace XW := Lib.hid ((ht6.block _ (by omega) (by omega)).trans XW.out)
  replace XG := Lib.hid ((ht6.block _ (by omega) (by omega)).trans XG.out)
  clear HG
  have HM := Lib.hid hmk6
  clear XWc0 XWc1
  clear XGc0 XGc1
  have XWc0 := cell_of_row _ _ 0 _ _ (0, 0) XW.out
  have XWc1 := cell_of_row _ _ 1 _ _ (0, 0) XW.out
  simp only [List.getElem?_toArray, List.getElem?_cons_zero, List.getElem?_cons_succ] at XWc0 XWc1
  have XGc0 := cell_of_row _ _ 0 _ _ (0, 0) XG.out
  have XGc1 := cell_of_row _ _ 1 _ _ (0, 0) XG.out
  simp only [List.getElem?_toArray, List.getElem?_cons_zero, List.getElem?_cons_succ] at XGc0 XGc1
  have kk : ¬ ((1 : Int) + 2 * (pr.1.2.length : Int) < 0) := by omega
  go_wp2_with fail
  refine (heldMsg_any _ _ pr.1.1 pr.1.2.length 1 w6 (by omega) (by decide) (by decide) HM.out.rd (by omega)).mono ?_
  rintro e w7 ⟨rfl, hb7⟩
  have z7 : w6.heap.size ≤ w7.heap.size := hb7.size
  have hB7 := hB6.trans (hb7.mono (show w.heap.size ≤ _ by omega))
  replace HW := Lib.hid (HW.out.below hb7 (by omega))
  replace XW := Lib.hid ((hb7.block _ (by omega)).trans XW.out)
  replace XG := Lib.hid ((hb7.block _ (by omega)).trans XG.out)
  replace HM := Lib.hid (HM.out.below hb7 (by omega))
  clear XWc0 XWc1
  clear XGc0 XGc1
  have XWc0 := cell_of_row _ _ 0 _ _ (0, 0) XW.out
  have XWc1 := cell_of_row _ _ 1 _ _ (0, 0) XW.out
  simp only [List.getElem?_toArray, List.getElem?_cons_zero, List.getElem?_cons_succ] at XWc0 XWc1
  have XGc0 := cell_of_row _ _ 0 _ _ (0, 0) XG.out
  have XGc1 := cell_of_row _ _ 1 _ _ (0, 0) XG.out
  simp only [List.getElem?_toArray, List.getElem?_cons_zero, List.getElem?_cons_succ] at XGc0 XGc1
  go_wp2_with fail
  refine (implBare_any a0 a1 w7 w0 (HCT.out _ (HB0.out.trans (hB7.mono (by omega))))).mono ?_
  rintro e w8 ⟨u8, rfl, hu8, hb8⟩
  rw [HWO.out] at hu8 ⊢
  obtain ⟨A8, c8, rfl, -⟩ := Rep.slice_form hu8.rd
  have z8 : w7.heap.size ≤ w8.heap.size := hb8.size
  have hB8 := hB7.trans (hb8.mono (show w.heap.size ≤ _ by omega))
  replace HW := Lib.hid (HW.out.below hb8 (by omega))
  replace XW := Lib.hid ((hb8.block _ (by omega)).trans XW.out)
  replace XG := Lib.hid ((hb8.block _ (by omega)).trans XG.out)
  replace HM := Lib.hid (HM.out.below hb8 (by omega))
  have HH := Lib.hid hu8
  clear XWc0 XWc1
  clear XGc0 XGc1
  have XWc0 := cell_of_row _ _ 0 _ _ (0, 0) XW.out
  have XWc1 := cell_of_row _ _ 1 _ _ (0, 0) XW.out
  simp only [List.getElem?_toArray, List.getElem?_cons_zero, List.getElem?_cons_succ] at XWc0 XWc1
  have XGc0 := cell_of_row _ _ 0 _ _ (0, 0) XG.out
  have XGc1 := cell_of_row _ _ 1 _ _ (0, 0) XG.out
  simp only [List.getElem?_toArray, List.getElem?_cons_zero, List.getElem?_cons_succ] at XGc0 XGc1
  have yy8XW : w1.heap.size < w8.heap.size := by omega
  have yy8XG : w3.heap.size < w8.heap.size := by omega
  go_wp2_with fail
  have hb9 := (Below.refl w8.heap.size w8).alloc (Nat.le_refl _) (.cells #[.string pr.1.1, .slice A8 pr.1.2.length c8] 29)
  have hXH := heap_alloc_new w8 (.cells #[.string pr.1.1, .slice A8 pr.1.2.length c8] 29)
  generalize w8.alloc (.cells #[.string pr.1.1, .slice A8 pr.1.2.length c8] 29) = w9 at hb9 hXH ⊢
  have z9 : w8.heap.size ≤ w9.heap.size := hb9.size
  have zl9 : w8.heap.size < w9.heap.size := lt_of_block hXH
  have hB9 := hB8.trans (hb9.mono (show w.heap.size ≤ _ by omega))
  replace HW := Lib.hid (HW.out.below hb9 (by omega))
  replace XW := Lib.hid ((hb9.block _ (by omega)).trans XW.out)
  replace XG := Lib.hid ((hb9.block _ (by omega)).trans XG.out)
  replace HM := Lib.hid (HM.out.below hb9 (by omega))
  replace HH := Lib.hid (HH.out.below hb9 (by omega))
  have XH := Lib.hid hXH
  clear hXH
  have XHc0 := cell_of_row _ _ 0 _ _ (0, 0) XH.out
  have XHc1 := cell_of_row _ _ 1 _ _ (0, 0) XH.out
  simp only [List.getElem?_toArray, List.getElem?_cons_zero, List.getElem?_cons_succ] at XHc0 XHc1
  go_wp2_with fail
  refine (eqMsg_any _ _ _ _ pr.1 w9 (show pr.1.1.size ≤ 1048576 by omega) (by omega) HH.out.rd HW.out.rd (by omega) (by omega)).mono ?_
  rintro e w10 ⟨rfl, hb10⟩
  have z10 : w9.heap.size ≤ w10.heap.size := hb10.size
  have hB10 := hB9.trans (hb10.mono (show w.heap.size ≤ _ by omega))
  replace HW := Lib.hid (HW.out.below hb10 (by omega))
  replace XW := Lib.hid ((hb10.block _ (by omega)).trans XW.out)
  replace XG := Lib.hid ((hb10.block _ (by omega)).trans XG.out)
  replace HM := Lib.hid (HM.out.below hb10 (by omega))
  replace HH := Lib.hid (HH.out.below hb10 (by omega))
  replace XH := Lib.hid ((hb10.block _ (by omega)).trans XH.out)
  clear XWc0 XWc1
  clear XGc0 XGc1
  clear XHc0 XHc1
  have XWc0 := cell_of_row _ _ 0 _ _ (0, 0) XW.out
  have XWc1 := cell_of_row _ _ 1 _ _ (0, 0) XW.out
  simp only [List.getElem?_toArray, List.getElem?_cons_zero, List.getElem?_cons_succ] at XWc0 XWc1
  have XGc0 := cell_of_row _ _ 0 _ _ (0, 0) XG.out
  have XGc1 := cell_of_row _ _ 1 _ _ (0, 0) XG.out
  simp only [List.getElem?_toArray, List.getElem?_cons_zero, List.getElem?_cons_succ] at XGc0 XGc1
  have XHc0 := cell_of_row _ _ 0 _ _ (0, 0) XH.out
  have XHc1 := cell_of_row _ _ 1 _ _ (0, 0) XH.out
  simp only [List.getElem?_toArray, List.getElem?_cons_zero, List.getElem?_cons_succ] at XHc0 XHc1
  go_wp2_with fail
  refine (heldMsg_any _ _ pr.1.1 pr.1.2.length 1 w10 (by omega) (by decide) (by decide) HM.out.rd (by omega)).mono ?_
  rintro e w11 ⟨rfl, hb11⟩
  have z11 : w10.heap.size ≤ w11.heap.size := hb11.size
  have hB11 := hB10.trans (hb11.mono (show w.heap.size ≤ _ by omega))
  replace HW := Lib.hid (HW.out.below hb11 (by omega))
  replace XW := Lib.hid ((hb11.block _ (by omega)).trans XW.out)
  replace XG := Lib.hid ((hb11.block _ (by omega)).trans XG.out)
  replace HM := Lib.hid (HM.out.below hb11 (by omega))
  replace HH := Lib.hid (HH.out.below hb11 (by omega))
  replace XH := Lib.hid ((hb11.block _ (by omega)).trans XH.out)
  clear XWc0 XWc1
  clear XGc0 XGc1
  clear XHc0 XHc1
  have XWc0 := cell_of_row _ _ 0 _ _ (0, 0) XW.out
  have XWc1 := cell_of_row _ _ 1 _ _ (0, 0) XW.out
  simp only [List.getElem?_toArray, List.getElem?_cons_zero, List.getElem?_cons_succ] at XWc0 XWc1
  have XGc0 := cell_of_row _ _ 0 _ _ (0, 0) XG.out
  have XGc1 := cell_of_row _ _ 1 _ _ (0, 0) XG.out
  simp only [List.getElem?_toArray, List.getElem?_cons_zero, List.getElem?_cons_succ] at XGc0 XGc1
  have XHc0 := cell_of_row _ _ 0 _ _ (0, 0) XH.out
  have XHc1 := cell_of_row _ _ 1 _ _ (0, 0) XH.out
  simp only [List.getElem?_toArray, List.getElem?_cons_zero, List.getElem?_cons_succ] at XHc0 XHc1
  go_wp2
  go_ret
  exact ⟨rfl, (HB0.out.trans (hB11.mono (by omega)))⟩

set_option maxRecDepth 100000 in
theorem t0 : (Tryd.prog.globals[2]?).map (·.type) = some 77 := by kernel_rfl
set_option maxRecDepth 100000 in
theorem g0 : Tryd.prog.globalNamed "loop.example/g00735/impl.errNotDigits" = some 2 := by kernel_rfl
set_option maxRecDepth 100000 in
theorem cellsE : Tryd.prog.cellsOf 128 = 1 := by kernel_rfl
set_option maxRecDepth 100000 in
theorem cellsS : Tryd.prog.cellsOf 9 = 1 := by kernel_rfl
set_option maxRecDepth 100000 in
theorem star : "*" ++ "errors.errorString" = "*errors.errorString" := by decide
set_option maxRecDepth 100000 in
theorem rowE (u : TypeId) (h : Tryd.prog.typeName? 3 u = some "*errors.errorString") : u = 114 :=
  typeName_ptr_named (nm := "errors.errorString") (by rw [star]; kernel_rfl) (by kernel_rfl) (by decide) u (by rw [star]; exact h)
set_option maxRecDepth 100000 in
theorem datC : (Rows.laid_loop_example_g00735_impl_codeTexts : DataW Unit) = .agg (rsTexts.map fun s => .lit (.string s)) := by kernel_rfl

set_option maxRecDepth 100000 in
theorem laidOut : laidOutB Tryd.prog = true := by kernel_rfl
set_option maxRecDepth 100000 in
theorem rowed : allRowed Tryd.prog Tryd.f5.params.toList = true := by kernel_rfl
set_option maxRecDepth 100000 in
theorem resT : Tryd.f5.resultTypes = #[4] := by kernel_rfl
set_option maxRecDepth 100000 in
theorem door_met (os : Os) (args : Array Value) : laidMetH Tryd.prog Rows.fnExactBareRow.laid ((World.doorLaid Tryd.prog 400 os).forCall (fun _ _ => 0) ⟨#[], args, []⟩).memory :=
  laidMetH_of_parts3 (fuel := 8) (laidMet_of_run' 8 (by kernel_rfl) (by kernel_rfl)) (by kernel_rfl) (by kernel_rfl)

set_option maxRecDepth 100000 in
theorem lifted (os : Os) (started : os.Started) (H : Type) (enc : TypeId × Value → H) :
    ReturnsInHanded {} Tryd.checked os 5 .any (fun w args => (Rows.fnExactBareSpec.pre enc Tryd.prog Tryd.f5 [] false w args ∧ laidMetH Tryd.prog Rows.fnExactBareRow.laid w) ∧ sizedMet enc Tryd.prog Tryd.f5 (OpenSpec.ofChange Rows.fnExactBareSpec) false w args)
      (Rows.fnExactBareSpec.post enc Tryd.prog Tryd.f5 false true false false) := by
  refine returnsInHanded_of_change_and (C := Tryd.checked) (X := fun w _ => laidMetH Tryd.prog Rows.fnExactBareRow.laid w) (fun _ _ _ hh h => h.of_heap hh) own started (by kernel_rfl) Tryd.func5
    (ChangeSpec.witness_shaped (enc := enc) (C := Tryd.checked) (os := os) (X := fun w _ => laidMetH Tryd.prog Rows.fnExactBareRow.laid w) false (World.doorLaid Tryd.prog 400 os) #[.string ByteArray.empty, .int .i64 0] 8 rfl (World.shaped_of_RefB (by kernel_rfl) (by kernel_rfl)) (by kernel_rfl) (by kernel_rfl) (by kernel_rfl) (door_met os _)) ?_
  intro W base args ds gs before hval0 hW _ _ hL0 _
  have hval : ∀ (j : Nat) t v, Tryd.f5.params[j]? = some t → args[j]? = some v → Value.okWide Tryd.prog W .any base t v := hval0
  have hW' := hW
  obtain ⟨p, q, hA0, hV, rfl, hfz, hnd⟩ := hW
  have hA : DataW.TrodAll enc Tryd.prog W 0 (fun _ => true) true Tryd.f5.params.toList args.toList ds p := hA0
  rw [Tryd.params5] at hA hval
  have hL := hL0
  rw [MakeChecks.laidMetH_plain _ _ _ (by kernel_rfl)] at hL
  obtain ⟨b0, s0, hv0, _, _, _⟩ := laid_sentinel hL.tail.tail.tail g0 t0 Tryd.underlying77 rowE Tryd.underlying114 Tryd.underlying128 rfl rfl Tryd.underlying9 cellsE cellsS
  have hc0 : W.cell? ⟨2, 0, none⟩ = some (.iface 114 (.pointer (some b0))) := by simpa using World.var?_cell g0 hv0 0
  have hlt0 : 2 < W.heap.size := by
    rcases Nat.lt_or_ge 2 W.heap.size with h | h
    · exact h
    · simp [World.cell?, Array.getElem?_eq_none h] at hc0
  have hCT : laidMet Tryd.prog (("loop.example/g00735/impl.codeTexts", .agg (rsTexts.map fun s => .lit (.string s))) :: []) W := by rw [← datC]; exact hL.tail.tail.tail.tail
  have hvC := codes_var hCT
  have hct : codesIn W := codes_in hvC
  have hltC : 0 < W.heap.size := by
    have h0 := hct 0 _ rfl
    rcases Nat.lt_or_ge 0 W.heap.size with h | h
    · exact h
    · simp [World.cell?, Array.getElem?_eq_none h] at h0
  obtain ⟨v0, vs0, d0, ds0, p0, q0, hargs, rfl, rfl, h0, r0⟩ := trodAll_cons hA
  obtain ⟨v1, vs1, d1, ds1, p1, q1, rfl, rfl, rfl, h1, r1⟩ := trodAll_cons r0
  obtain ⟨rfl, rfl, rfl⟩ := trodAll_nil r1
  obtain rfl : args = #[v0, v1] := by cases args; simp_all
  obtain ⟨rfl, rfl⟩ := hV.unique (vars_codes enc _ hvC (vars_err enc g0 t0 Tryd.underlying77 hv0 trivial (vars_nil enc _)))
  obtain ⟨a0, rfl, rfl, rfl, w0⟩ := open_string Tryd.underlying9 (hval 0 9 v0 rfl rfl) h0
  obtain ⟨a1, rfl, rfl, rfl, w1⟩ := open_int Tryd.underlying3 (hval 1 3 v1 rfl rfl) h1
  clear hA0 hval0
  refine (walk W _ hc0 hct _ _ w0 w1).mono fun e W' ⟨he, hg⟩ => ?_
  subst he
  exact ⟨_, rfl, post_true laidOut rowed hW' rfl resT Tryd.underlying4 hg (vars_codes enc _ (var?_below hg gCodes hltC hvC) (vars_err enc g0 t0 Tryd.underlying77 (var?_below hg g0 hlt0 hv0) trivial (vars_nil enc _)))⟩

set_option maxRecDepth 100000 in
theorem over : Rows.fnExactBareRow.holds Tryd.pinned (OpenSpec.ofChange Rows.fnExactBareSpec) :=
  OpenClaim.holds_of_wide 5 Tryd.f5 rfl rfl rfl rfl rfl rfl rfl ⟨rfl, rfl, rfl, rfl, rfl⟩ rfl rfl rfl rfl rfl (by kernel_rfl) Tryd.func5 (by kernel_rfl)
    (of_decide_eq_true (by kernel_rfl)) (by unfold Func.isWrapper; first | (rw [if_pos (by decide +kernel)]; kernel_rfl) | (rw [if_neg (by decide +kernel)]; exact ⟨rfl, rfl⟩))
    (fun os started H enc _ => lifted os started H enc)

set_option maxRecDepth 100000 in
theorem said : Rows.FnExactBareSaid :=
  over

set_option maxRecDepth 100000 in
theorem plain (f : FuncId) (fn : Func) (hf : Tryd.pinned.checked.prog.funcNamed "loop.example/g00735/laws.FnExactBare" = some f) (hfn : Tryd.pinned.checked.prog.funcs[f]? = some fn) :
    Rows.fnExactBareCard.stood.looks = Tryd.pinned.checked.prog.looks [] ∧ ∀ (j : Nat) t, fn.params[j]? = some t → Tryd.pinned.checked.prog.wantsStandIn t = false := by
  obtain rfl : f = 5 := Option.some.inj ((show Tryd.prog.funcNamed "loop.example/g00735/laws.FnExactBare" = some 5 by kernel_rfl).symm.trans hf) |>.symm
  obtain rfl : fn = Tryd.f5 := (Option.some.inj (Tryd.func5.symm.trans hfn)).symm
  refine ⟨by kernel_rfl, fun j t ht => ?_⟩
  rw [Tryd.params5] at ht
  have hm : t ∈ [9, 3] := by simpa using Array.mem_of_getElem? ht
  have hall : ([9, 3].all fun u => !Tryd.prog.wantsStandIn u) = true := by kernel_rfl
  exact (show Tryd.prog.wantsStandIn t = false by simpa using List.all_eq_true.1 hall t hm)

set_option maxRecDepth 100000 in
theorem proved : Rows.FnExactBareCardSaid :=
  Claim7.holds_tied_plain_at .later [] _ _ _ _ said (fun _ h => by cases h) (by kernel_rfl) (fun _ h => by cases h) fnExactBare_row_tie rfl ⟨rfl, rfl⟩ (by kernel_rfl) rfl plain (by kernel_rfl)
#print axioms proved
end Go.Proofs.YtdjlhijaadombaaDoor.fnExactBare
