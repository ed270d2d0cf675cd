/- FnExactMsgOk: for every argument the law answers true: the program's function returns what the reference returns; the listed package variables hold what the program's text lays (tied). -/
import Derived.Test.YtkkbhlaakhkjnaaDoorPost
import Derived.Test.YtkkbhlaakhkjnaaDoorOpenMsg
import Derived.Test.YtkkbhlaakhkjnaaDoorCards
import Derived.Test.YtkkbhlaakhkjnaaDoorTie
import Derived.Stop.LaidErr
import Derived.LaidMore
import Derived.Stop.Joined
import Derived.SevenTiedAt
import Derived.WalkSmall
import Derived.Lib.LaidTab
import Derived.Lib.ItoaNum
import Derived.Test.YtkkbhlaakhkjnaaDoorMrg1
namespace Go.Proofs.YtkkbhlaakhkjnaaDoor.fnExactMsgOk
open Go.ChangeShapes Go.WideShapes Go.ChangeAt Go.RowKit
open Go.WideMaps Go.WideElems
open Go.ChangeMaps (open_string shut_string)
set_option linter.unusedVariables false

set_option maxRecDepth 100000 in
theorem own : ownKnob Tryd.prog.godebug = none := by kernel_rfl

set_option maxRecDepth 100000 in
theorem walk (w : World) (p0 : Addr) (hc0 : w.cell? ⟨1, 0, none⟩ = some (.iface 115 (.pointer (some p0)))) (htab : Lib.TabIs Tryd.prog w "internal/strconv.uint64pow10" .u64 Lib.pow10Tab) (m0 : MsgD) (u0 : Value) (w0 : FieldsR.rd w.heap.size w [u0] m0.2) (z0 : m0.1.size ≤ maxLen) (n0 : m0.2.length ≤ maxLen) (y0 : ∀ x ∈ m0.2, (Lit.int .i64 x.1).wf = true ∧ x.2.size ≤ maxLen) :
    Calls Tryd.prog 3 #[.agg #[.string m0.1, u0]] w fun e w' => e = .returned (.bool true) ∧ Below w.heap.size w w' := by
  obtain ⟨A0, c0, rfl, -⟩ := Rep.slice_form w0
  have H := Lib.hid w0
  have HN := Lib.hid n0
  have HY : Hid (∀ x ∈ m0.2, x.2.size ≤ maxLen) := Lib.hid (fun x hx => (y0 x hx).2)
  have HI : Hid (∀ x ∈ m0.2, (Lit.int .i64 x.1).wf = true) := Lib.hid (fun x hx => (y0 x hx).1)
  have HB0 : Hid (Below w.heap.size w (w.alloc (.cells #[.string m0.1, .slice A0 m0.2.length c0] 24))) := Lib.hid ((Below.refl _ _).alloc (Nat.le_refl _) _)
  have HX : Hid (∀ wr, Below (w.heap.size + 1) (w.alloc (.cells #[.string m0.1, .slice A0 m0.2.length c0] 24)) wr → wr.cell? ⟨w.heap.size, 0, none⟩ = some (.string m0.1) ∧ wr.cell? ⟨w.heap.size, 1, none⟩ = some (.slice A0 m0.2.length c0)) := Lib.hid fun wr hw => ⟨(hw.cell (p := ⟨_, 0, none⟩) (Nat.lt_succ_self _)).trans (by simp), (hw.cell (p := ⟨_, 1, none⟩) (Nat.lt_succ_self _)).trans (by simp)⟩
  clear w0 y0
  go_enter Tryd.func3, Tryd.ntmps3
  go_wp2_with fail
  refine (szMsg_any w.heap.size _ m0 1048576 _ HN.out z0 HY.out (Rep.below (R := FieldsR) H.out HB0.out (Nat.le_refl _)) (by simp) (by decide) (by decide)).mono ?_
  rintro e w1 ⟨r, rfl, hr, hb1⟩
  have z1 : w.heap.size + 1 ≤ w1.heap.size := by have := hb1.size; simpa using this
  have hB1 : Below (w.heap.size + 1) (w.alloc (.cells #[.string m0.1, .slice A0 m0.2.length c0] 24)) w1 := hb1.mono (by simp)
  rcases hr with rfl | ⟨hr, hr0⟩
  · go_wp2
    go_ret
    exact ⟨rfl, HB0.out.trans (hB1.mono (Nat.le_succ _))⟩
  have hsz : msgSz m0 ≤ 1048576 := by omega
  have hl : m0.2.length ≤ 1048576 := by unfold msgSz fieldsSz at hsz; omega
  have ht : m0.1.size ≤ 1048576 := by unfold msgSz at hsz; omega
  have hs : ∀ x ∈ m0.2, x.2.size ≤ 1048576 := fun x hx => by have := le_sum (fun y : FieldD => y.2.size) hx; unfold msgSz fieldsSz at hsz; omega
  have HS := Lib.hid hs
  have HR0 := Lib.hid hr
  replace H := Lib.hid (Rep.below (R := FieldsR) H.out (HB0.out.trans (hB1.mono (Nat.le_succ _))) (Nat.le_refl _))
  obtain ⟨x0, x1⟩ := HX.out w1 hB1
  clear hr hsz hb1 hs
  go_wp2_with fail
  refine (toMsg_any w.heap.size m0 _ w1 hl H.out (by omega)).mono ?_
  rintro e w2 ⟨u2, rfl, hu2, hb2⟩
  obtain ⟨A2, c2, rfl, -⟩ := Rep.slice_form hu2.rd
  have z2 : w1.heap.size ≤ w2.heap.size := hb2.size
  have hB2 := hB1.trans (hb2.mono (show w.heap.size + 1 ≤ _ by omega))
  replace H := Lib.hid (Rep.below (R := FieldsR) H.out hb2 (by omega))
  have H2 := Lib.hid hu2
  clear x0 x1
  obtain ⟨x0, x1⟩ := HX.out w2 hB2
  go_wp2_with fail
  refine (specMsgOk_any _ _ m0 w2 z0 hl HY.out H2.out.rd (by omega)).mono ?_
  rintro e w3 ⟨rfl, hb3⟩
  have z3 : w2.heap.size ≤ w3.heap.size := hb3.size
  have hB3 := hB2.trans (hb3.mono (show w.heap.size + 1 ≤ _ by omega))
  replace H := Lib.hid (Rep.below (R := FieldsR) H.out hb3 (by omega))
  replace H2 := Lib.hid (H2.out.below hb3 (by omega))
  clear x0 x1
  obtain ⟨x0, x1⟩ := HX.out w3 hB3
  clear H2
  go_wp2_with fail
  refine (toMsg_any w.heap.size m0 _ w3 hl H.out (by omega)).mono ?_
  rintro e w4 ⟨u4, rfl, hu4, hb4⟩
  obtain ⟨A4, c4, rfl, -⟩ := Rep.slice_form hu4.rd
  have z4 : w3.heap.size ≤ w4.heap.size := hb4.size
  have hB4 := hB3.trans (hb4.mono (show w.heap.size + 1 ≤ _ by omega))
  replace H := Lib.hid (Rep.below (R := FieldsR) H.out hb4 (by omega))
  have H4 := Lib.hid hu4
  clear x0 x1
  obtain ⟨x0, x1⟩ := HX.out w4 hB4
  have yy4 : w.heap.size < w4.heap.size := by omega
  go_wp2_with fail
  have hb5 := (Below.refl w4.heap.size w4).alloc (Nat.le_refl _) (.cells #[.string m0.1, .slice A4 m0.2.length c4] 29)
  have hX4 := heap_alloc_new w4 (.cells #[.string m0.1, .slice A4 m0.2.length c4] 29)
  generalize w4.alloc (.cells #[.string m0.1, .slice A4 m0.2.length c4] 29) = w5 at hb5 hX4 ⊢
  have z5 : w4.heap.size ≤ w5.heap.size := hb5.size
  have zl5 : w4.heap.size < w5.heap.size := lt_of_block hX4
  have hB5 := hB4.trans (hb5.mono (show w.heap.size + 1 ≤ _ by omega))
  replace H := Lib.hid (Rep.below (R := FieldsR) H.out hb5 (by omega))
  replace H4 := Lib.hid (H4.out.below hb5 (by omega))
  have X4 := Lib.hid hX4
  clear hX4 x0 x1
  obtain ⟨x0, x1⟩ := HX.out w5 hB5
  have X4c0 := cell_of_row _ _ 0 _ _ (0, 0) X4.out
  have X4c1 := cell_of_row _ _ 1 _ _ (0, 0) X4.out
  simp only [List.getElem?_toArray, List.getElem?_cons_zero, List.getElem?_cons_succ] at X4c0 X4c1
  go_wp2_with fail
  refine (implMsgOk_any _ _ m0 w5 z0 hl HY.out H4.out.rd (by omega)).mono ?_
  rintro e w6 ⟨rfl, hb6⟩
  have z6 : w5.heap.size ≤ w6.heap.size := hb6.size
  have hB6 := hB5.trans (hb6.mono (show w.heap.size + 1 ≤ _ by omega))
  replace H := Lib.hid (Rep.below (R := FieldsR) H.out hb6 (by omega))
  replace H4 := Lib.hid (H4.out.below hb6 (by omega))
  replace X4 := Lib.hid ((hb6.block _ (by omega)).trans X4.out)
  clear x0 x1
  obtain ⟨x0, x1⟩ := HX.out w6 hB6
  clear X4c0 X4c1
  have X4c0 := cell_of_row _ _ 0 _ _ (0, 0) X4.out
  have X4c1 := cell_of_row _ _ 1 _ _ (0, 0) X4.out
  simp only [List.getElem?_toArray, List.getElem?_cons_zero, List.getElem?_cons_succ] at X4c0 X4c1
  go_wp2
  have hD : Below w6.heap.size w6 w6.drew := below_drew w6 _
  have zD : w6.drew.heap.size = w6.heap.size := rfl
  go_region_held3 (fun V => V.cell? ⟨w4.heap.size, 0, none⟩ = some (.string m0.1) ∧ V.cell? ⟨w4.heap.size, 1, none⟩ = some (.slice A4 m0.2.length c4) ∧ V.cell? ⟨w.heap.size, 0, none⟩ = some (.string m0.1) ∧ V.cell? ⟨w.heap.size, 1, none⟩ = some (.slice A0 m0.2.length c0)) (go_keep) (first | (go_at_call 6; refine (toMsg_any w.heap.size m0 _ w6.drew hl (Rep.below (R := FieldsR) H.out hD (by omega)) (show w.heap.size ≤ w6.heap.size by omega)).mono ?_; rintro e w7 ⟨uq, rfl, huq, hbq⟩; have hbq : Below w6.heap.size w6.drew w7 := hbq; have huq : FieldsR.mine w6.heap.size w7.heap.size w7 [uq] m0.2 := huq; have zq : w6.heap.size ≤ w7.heap.size := hbq.size; have qa0 := (hbq.cell (p := ⟨w4.heap.size, 0, none⟩) (show w4.heap.size < _ by omega)).trans X4c0; have qa1 := (hbq.cell (p := ⟨w4.heap.size, 1, none⟩) (show w4.heap.size < _ by omega)).trans X4c1; have qa2 := (hbq.cell (p := ⟨w.heap.size, 0, none⟩) (show w.heap.size < _ by omega)).trans x0; have qa3 := (hbq.cell (p := ⟨w.heap.size, 1, none⟩) (show w.heap.size < _ by omega)).trans x1) | (go_at_call 8; refine (eqMsg_any _ _ _ _ m0 w7 ht (by omega) (H4.out.below (hD.trans hbq) (by omega)).rd huq.rd (by omega) (Nat.le_refl _)).mono ?_; rintro e w8 ⟨rfl, hbr⟩; have zr : w7.heap.size ≤ w8.heap.size := hbr.size; have qb0 := (hbr.cell (p := ⟨w4.heap.size, 0, none⟩) (show w4.heap.size < _ by omega)).trans qa0; have qb1 := (hbr.cell (p := ⟨w4.heap.size, 1, none⟩) (show w4.heap.size < _ by omega)).trans qa1; have qb2 := (hbr.cell (p := ⟨w.heap.size, 0, none⟩) (show w.heap.size < _ by omega)).trans qa2; have qb3 := (hbr.cell (p := ⟨w.heap.size, 1, none⟩) (show w.heap.size < _ by omega)).trans qa3))
  have hB8 := ((hB6.trans (hD.mono (show w.heap.size + 1 ≤ _ by omega))).trans (hbq.mono (show w.heap.size + 1 ≤ _ by omega))).trans (hbr.mono (show w.heap.size + 1 ≤ _ by omega))
  go_wp2
  go_ret
  exact ⟨rfl, HB0.out.trans (hB8.mono (Nat.le_succ _))⟩

set_option maxRecDepth 100000 in
theorem t0 : (Tryd.prog.globals[1]?).map (·.type) = some 78 := by kernel_rfl
set_option maxRecDepth 100000 in
theorem g0 : Tryd.prog.globalNamed "loop.example/g00735/impl.errNotDigits" = some 1 := by kernel_rfl
set_option maxRecDepth 100000 in
theorem cellsE : Tryd.prog.cellsOf 129 = 1 := by kernel_rfl
set_option maxRecDepth 100000 in
theorem cellsS : Tryd.prog.cellsOf 9 = 1 := by kernel_rfl
set_option maxRecDepth 100000 in
theorem star : "*" ++ "errors.errorString" = "*errors.errorString" := by decide
set_option maxRecDepth 100000 in
theorem rowE (u : TypeId) (h : Tryd.prog.typeName? 3 u = some "*errors.errorString") : u = 115 :=
  typeName_ptr_named (nm := "errors.errorString") (by rw [star]; kernel_rfl) (by kernel_rfl) (by decide) u (by rw [star]; exact h)
set_option maxRecDepth 100000 in
theorem gP : Tryd.prog.globalNamed "internal/strconv.uint64pow10" = some 2 := by kernel_rfl
set_option maxRecDepth 100000 in
theorem tP : (Tryd.prog.globals[2]?).map (·.type) = some 109 := by kernel_rfl
set_option maxRecDepth 100000 in
theorem cellsA : Tryd.prog.cellsOf 109 = 20 := by kernel_rfl
set_option maxRecDepth 100000 in
theorem cellsU : Tryd.prog.cellsOf 96 = 1 := by kernel_rfl
set_option maxRecDepth 100000 in
theorem datP : (Rows.laid_internal_strconv_uint64pow10 : DataW Unit) = Lib.tabData .u64 Lib.pow10Tab := by kernel_rfl

set_option maxRecDepth 100000 in
theorem laidOut : laidOutB Tryd.prog = true := by kernel_rfl
set_option maxRecDepth 100000 in
theorem rowed : allRowed Tryd.prog Tryd.f3.params.toList = true := by kernel_rfl
set_option maxRecDepth 100000 in
theorem resT : Tryd.f3.resultTypes = #[4] := by kernel_rfl
set_option maxRecDepth 100000 in
theorem door_met (os : Os) (args : Array Value) : laidMetH Tryd.prog Rows.fnExactMsgOkRow.laid ((World.doorLaid Tryd.prog 400 os).forCall (fun _ _ => 0) ⟨#[], args, []⟩).memory :=
  laidMetH_of_parts3 (fuel := 8) (laidMet_of_run' 8 (by kernel_rfl) (by kernel_rfl)) (by kernel_rfl) (by kernel_rfl)

set_option maxRecDepth 100000 in
theorem lifted (os : Os) (started : os.Started) (H : Type) (enc : TypeId × Value → H) :
    ReturnsInHanded {} Tryd.checked os 3 .any (fun w args => (Rows.fnExactMsgOkSpec.pre enc Tryd.prog Tryd.f3 [] false w args ∧ laidMetH Tryd.prog Rows.fnExactMsgOkRow.laid w) ∧ sizedMet enc Tryd.prog Tryd.f3 (OpenSpec.ofChange Rows.fnExactMsgOkSpec) false w args)
      (Rows.fnExactMsgOkSpec.post enc Tryd.prog Tryd.f3 false true false false) := by
  refine returnsInHanded_of_change_and (C := Tryd.checked) (X := fun w _ => laidMetH Tryd.prog Rows.fnExactMsgOkRow.laid w) (fun _ _ _ hh h => h.of_heap hh) own started (by kernel_rfl) Tryd.func3
    (ChangeSpec.witness_shaped (enc := enc) (C := Tryd.checked) (os := os) (X := fun w _ => laidMetH Tryd.prog Rows.fnExactMsgOkRow.laid w) false (World.doorLaid Tryd.prog 400 os) #[.agg #[.string ByteArray.empty, .slice none 0 0]] 8 rfl (World.shaped_of_RefB (by kernel_rfl) (by kernel_rfl)) (by kernel_rfl) (by kernel_rfl) (by kernel_rfl) (door_met os _)) ?_
  intro W base args ds gs before hval0 hW _ _ hL0 _
  have hval : ∀ (j : Nat) t v, Tryd.f3.params[j]? = some t → args[j]? = some v → Value.okWide Tryd.prog W .any base t v := hval0
  have hW' := hW
  obtain ⟨p, q, hA0, hV, rfl, hfz, hnd⟩ := hW
  have hA : DataW.TrodAll enc Tryd.prog W 0 (fun _ => true) true Tryd.f3.params.toList args.toList ds p := hA0
  rw [Tryd.params3] at hA hval
  have hL := hL0
  rw [MakeChecks.laidMetH_plain _ _ _ (by kernel_rfl)] at hL
  obtain ⟨b0, s0, hv0, _, _, _⟩ := laid_sentinel hL.tail.tail.tail g0 t0 Tryd.underlying78 rowE Tryd.underlying115 Tryd.underlying129 rfl rfl Tryd.underlying9 cellsE cellsS
  have hc0 : W.cell? ⟨1, 0, none⟩ = some (.iface 115 (.pointer (some b0))) := by simpa using World.var?_cell g0 hv0 0
  have hlt0 : 1 < W.heap.size := by
    rcases Nat.lt_or_ge 1 W.heap.size with h | h
    · exact h
    · simp [World.cell?, Array.getElem?_eq_none h] at hc0
  have hT : laidMet Tryd.prog (("internal/strconv.uint64pow10", Lib.tabData .u64 Lib.pow10Tab) :: [("loop.example/g00735/impl.errNotDigits", Rows.laid_loop_example_g00735_impl_errNotDigits)]) W := by rw [← datP]; exact hL.tail.tail
  have htab : Lib.TabIs Tryd.prog W "internal/strconv.uint64pow10" .u64 Lib.pow10Tab := Lib.tabIs_of_head (rest := _) gP tP Tryd.underlying109 Tryd.underlying96 cellsU cellsA hT
  obtain ⟨v0, vs0, d0, ds0, p0, q0, hargs, rfl, rfl, h0, r0⟩ := trodAll_cons hA
  obtain ⟨rfl, rfl, rfl⟩ := trodAll_nil r0
  obtain rfl : args = #[v0] := by cases args; simp_all
  obtain ⟨rfl, rfl⟩ := hV.unique (vars_read1 enc g0 t0 Tryd.underlying78 hv0 trivial _)
  obtain ⟨m0, u0, rfl, w0, z0, n0, y0⟩ := open_msg (hval 0 24 v0 rfl rfl) h0
  clear hA0 hval0
  refine (walk W _ hc0 htab _ _ w0 z0 n0 y0).mono fun e W' ⟨he, hg⟩ => ?_
  subst he
  exact ⟨_, rfl, post_true laidOut rowed hW' rfl resT Tryd.underlying4 hg (vars_read1 enc g0 t0 Tryd.underlying78 (var?_below hg g0 hlt0 hv0) trivial _)⟩

set_option maxRecDepth 100000 in
theorem over : Rows.fnExactMsgOkRow.holds Tryd.pinned (OpenSpec.ofChange Rows.fnExactMsgOkSpec) :=
  OpenClaim.holds_of_wide 3 Tryd.f3 rfl rfl rfl rfl rfl rfl rfl ⟨rfl, rfl, rfl, rfl, rfl⟩ rfl rfl rfl rfl rfl (by kernel_rfl) Tryd.func3 (by kernel_rfl)
    (of_decide_eq_true (by kernel_rfl)) (by unfold Func.isWrapper; first | (rw [if_pos (by decide +kernel)]; kernel_rfl) | (rw [if_neg (by decide +kernel)]; exact ⟨rfl, rfl⟩))
    (fun os started H enc _ => lifted os started H enc)

set_option maxRecDepth 100000 in
theorem said : Rows.FnExactMsgOkSaid :=
  over

set_option maxRecDepth 100000 in
theorem plain (f : FuncId) (fn : Func) (hf : Tryd.pinned.checked.prog.funcNamed "loop.example/g00735/laws.FnExactMsgOk" = some f) (hfn : Tryd.pinned.checked.prog.funcs[f]? = some fn) :
    Rows.fnExactMsgOkCard.stood.looks = Tryd.pinned.checked.prog.looks [] ∧ ∀ (j : Nat) t, fn.params[j]? = some t → Tryd.pinned.checked.prog.wantsStandIn t = false := by
  obtain rfl : f = 3 := Option.some.inj ((show Tryd.prog.funcNamed "loop.example/g00735/laws.FnExactMsgOk" = some 3 by kernel_rfl).symm.trans hf) |>.symm
  obtain rfl : fn = Tryd.f3 := (Option.some.inj (Tryd.func3.symm.trans hfn)).symm
  refine ⟨by kernel_rfl, fun j t ht => ?_⟩
  rw [Tryd.params3] at ht
  have hm : t ∈ [24] := by simpa using Array.mem_of_getElem? ht
  have hall : ([24].all fun u => !Tryd.prog.wantsStandIn u) = true := by kernel_rfl
  exact (show Tryd.prog.wantsStandIn t = false by simpa using List.all_eq_true.1 hall t hm)

set_option maxRecDepth 100000 in
theorem proved : Rows.FnExactMsgOkCardSaid :=
  Claim7.holds_tied_plain_at .later [] _ _ _ _ said (fun _ h => by cases h) (by kernel_rfl) (fun _ h => by cases h) fnExactMsgOk_row_tie rfl ⟨rfl, rfl⟩ (by kernel_rfl) rfl plain (by kernel_rfl)
#print axioms proved
end Go.Proofs.YtkkbhlaakhkjnaaDoor.fnExactMsgOk
