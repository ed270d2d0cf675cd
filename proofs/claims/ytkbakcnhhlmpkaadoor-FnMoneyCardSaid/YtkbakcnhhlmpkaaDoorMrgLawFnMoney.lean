/- FnMoney: for every argument the law answers true: the program's function returns what the reference returns; the listed package variables hold what the program's text lays (tied). -/
import Derived.Test.YtkbakcnhhlmpkaaDoorPost
import Derived.Test.YtkbakcnhhlmpkaaDoorOpenB
import Derived.Test.YtkbakcnhhlmpkaaDoorCards
import Derived.Test.YtkbakcnhhlmpkaaDoorTie
import Derived.Stop.LaidErr
import Derived.LaidMore
import Derived.Stop.Joined
import Derived.SevenTiedAt
import Derived.WalkSmall
import Derived.Lib.LaidTab
import Derived.Lib.ItoaNum
import Derived.LaidHandle
import Derived.Test.YtkbakcnhhlmpkaaDoorMrg2
namespace Go.Proofs.YtkbakcnhhlmpkaaDoor.fnMoney
open Go.ChangeShapes Go.WideShapes Go.ChangeAt Go.RowKit
open Go.WideMaps Go.WideElems
open Go.ChangeMaps (open_string shut_string)
set_option linter.unusedVariables false

set_option maxRecDepth 100000 in
theorem own : ownKnob Tryd.prog.godebug = none := by kernel_rfl

set_option maxRecDepth 100000 in
set_option maxHeartbeats 8000000 in
theorem walk (w : World) (p0 : Addr) (hc0 : w.cell? ⟨0, 0, none⟩ = some (.iface 137 (.pointer (some p0)))) (p1 : Addr) (hc1 : w.cell? ⟨1, 0, none⟩ = some (.iface 137 (.pointer (some p1)))) (htab : Lib.TabIs Tryd.prog w "internal/strconv.uint64pow10" .u64 Lib.pow10Tab) (hh : w.cell? ⟨2, 0, none⟩ = some (.iface 97 (.agg #[.pointer (some ⟨6, 42, none⟩)]))) (a0 : Value) (s0 : ∃ ao len cap, a0 = .slice ao len cap) (w0 : readable w w.heap.size a0) :
    Calls Tryd.prog 3 #[a0] w fun e w' => e = .returned (.bool true) ∧ Below w.heap.size w w' := by
  obtain ⟨ao, len, cap, rfl⟩ := s0
  by_cases hbig : (1048576 : Int) < (len : Int)
  · go_enter Tryd.func3, Tryd.ntmps3
    go_wp2
    go_ret
    exact ⟨rfl, Below.refl _ _⟩
  have hlen : lenOf (.slice ao len cap) ≤ 1048576 := by show len ≤ 1048576; omega
  have hg0 : 0 < w.heap.size := cell_in hc0
  have hg1 : 1 < w.heap.size := cell_in hc1
  have hgp : 3 < w.heap.size := tab_in htab
  have HC0 : Hid (∀ w', Below w.heap.size w w' → w'.cell? ⟨0, 0, none⟩ = some (.iface 137 (.pointer (some p0)))) := Lib.hid fun w' h => (h.cell (p := ⟨_, 0, none⟩) hg0).trans hc0
  have HC1 : Hid (∀ w', Below w.heap.size w w' → w'.cell? ⟨1, 0, none⟩ = some (.iface 137 (.pointer (some p1)))) := Lib.hid fun w' h => (h.cell (p := ⟨_, 0, none⟩) hg1).trans hc1
  have HT : Hid (∀ w', Below w.heap.size w w' → Lib.TabIs Tryd.prog w' "internal/strconv.uint64pow10" .u64 Lib.pow10Tab) := Lib.hid fun w' h => var?_below h (by kernel_rfl) hgp htab
  have HH : Hid (∀ w', Below w.heap.size w w' → Handle w') := Lib.hid fun w' h => Handle.below (w := w) hh h (Nat.le_refl _)
  clear htab hc0 hc1 hh
  have HR := Lib.hid w0
  clear w0
  go_enter Tryd.func3, Tryd.ntmps3
  go_wp2_with fail
  refine (makeAcct_any _ w HR.out hlen).mono ?_
  rintro e w1 ⟨⟨xi, lim, pos, most, sum, hs, ⟨sp, hd, cs, ss⟩, sl⟩, vh, vc, vs, vl, rfl, hok, hm, hb1⟩
  simp only [aId, aLim, aPos, aMost, aSum]
  obtain ⟨k1, k2, k3, k4⟩ := acct_money hok
  simp only [aLim, aPos] at k1 k2 k3 k4
  have k5 : 0 ≤ pos := (isMon_true k1).1
  have HMP := Lib.hid (money_plain k1 k2 k3 k4)
  obtain ⟨t1, t2, t3⟩ := text_back lim k2 (by omega)
  have HTX := Lib.hid (And.intro t1 t2)
  have HLN : Hid ((⟨(numOf lim).toArray⟩ : ByteArray).size ≤ maxLen) := Lib.hid (by
    have : (⟨(numOf lim).toArray⟩ : ByteArray).size = (numOf lim).length := rfl
    unfold maxLen; omega)
  obtain ⟨vh', vc', vs', vl', hcs, r1, r2, r3, r4⟩ := acct_rd hm.mine.rd
  simp only [aCells, List.cons.injEq, and_true, true_and] at hcs
  obtain ⟨rfl, rfl, rfl, rfl⟩ := hcs
  obtain ⟨AH, cH, rfl, -⟩ := Rep.slice_form r1
  obtain ⟨AL, cL, rfl, -⟩ := Rep.slice_form r4
  obtain ⟨AC, cC, rfl, -⟩ := r2.form
  obtain ⟨AS, cS, rfl, -⟩ := r3.form
  simp only [aH, aS]
  have z1 := hb1.size
  have HB1 := Lib.hid hb1
  clear hok hm hb1 r1 r2 r3 r4 k1 k4 t1 t2 t3 HR
  go_upto_region 4 with fail
  obtain ⟨W, hW⟩ : ∃ W, W = w1.alloc (.cells #[.string xi, .int .i64 lim, .int .i64 pos, .int .i64 most, .int .i64 sum, .slice AH hs.length cH, .int .i64 sp, .int .i64 hd, .slice AC cs.length cC, .slice AS ss.length cS, .slice AL sl.length cL] 29) := ⟨_, rfl⟩
  have b0 : bk W w1.heap.size 29 [.string xi, .int .i64 lim, .int .i64 pos, .int .i64 most, .int .i64 sum, .slice AH hs.length cH, .int .i64 sp, .int .i64 hd, .slice AC cs.length cC, .slice AS ss.length cS, .slice AL sl.length cL] := by rw [hW]; exact bk.new w1 _ _
  have HB2 : Hid (Below w.heap.size w W) := Lib.hid (by rw [hW]; exact HB1.out.alloc z1 _)
  have z2 := b0.lt
  rw [← hW]
  clear hW
  have B0 := Lib.hid b0
  have d1 : W.cell? ⟨w1.heap.size, 1, none⟩ = some (.int .i64 lim) := b0.cell 1
  have d2 : W.cell? ⟨w1.heap.size, 2, none⟩ = some (.int .i64 pos) := b0.cell 2
  clear b0
  obtain ⟨m1, m2, m3, m4, m5, m6, m7⟩ := HMP.out
  have M1 := Lib.hid (And.intro m1 m2)
  have M3 := Lib.hid (And.intro m3 m4)
  have M5 := Lib.hid m5
  have M6 := Lib.hid m6
  have M7 := Lib.hid m7
  clear m1 m2 m3 m4 m5 m6 m7 HMP
  have hwr : IntKind.i64.wrap (lim + 1) = lim + 1 := by rw [IntKind.wrap_i64]; omega
  go_wp2_with fail
  refine (implAdd_any pos lim W p0 (HC0.out _ HB2.out)).mono ?_
  rw [M1.out.1, M1.out.2]
  rintro e w2 ⟨rfl, n, rfl⟩
  have HB3 : Hid (Below w.heap.size w (W.drewN n)) := Lib.hid (below_drew' HB2.out n)
  obtain ⟨W3, hW3⟩ : ∃ W3, W3 = W.drewN n := ⟨_, rfl⟩
  have B3 : Hid (bk W3 w1.heap.size 29 [.string xi, .int .i64 lim, .int .i64 pos, .int .i64 most, .int .i64 sum, .slice AH hs.length cH, .int .i64 sp, .int .i64 hd, .slice AC cs.length cC, .slice AS ss.length cS, .slice AL sl.length cL]) := Lib.hid (by rw [hW3]; exact B0.out.drewN n)
  rw [← hW3] at HB3 ⊢
  clear hW3 d1 d2 B0 HB2
  have z3 := B3.out.lt
  have d1 : W3.cell? ⟨w1.heap.size, 1, none⟩ = some (.int .i64 lim) := B3.out.cell 1
  have d2 : W3.cell? ⟨w1.heap.size, 2, none⟩ = some (.int .i64 pos) := B3.out.cell 2
  go_wp2_with fail
  refine (implSub_any (pos + lim) lim W3).mono ?_
  rw [M3.out.1, M3.out.2]
  rintro e w2 ⟨rfl, rfl⟩
  go_wp2_with fail
  refine (implSub_any pos (lim + 1) W3).mono ?_
  rw [M5.out]
  rintro e w2 ⟨rfl, rfl⟩
  go_wp2_with fail
  refine (implNum_any lim W3 (HT.out _ HB3.out)).mono ?_
  rintro e w4 ⟨rfl, hb4⟩
  have z4 := hb4.size
  have HB4 : Hid (Below w.heap.size w w4) := Lib.hid (HB3.out.trans (hb4.mono (by omega)))
  have B4 := Lib.hid (B3.out.below hb4 z3)
  clear hb4 d1 d2 B3 HB3
  go_wp2_with fail
  refine (implTextNum_any ⟨(numOf lim).toArray⟩ w4 HLN.out p1 (by omega) (HC1.out _ HB4.out)).mono ?_
  rw [HTX.out.1, HTX.out.2]
  rintro e w5 ⟨rfl, hb5⟩
  have z5 := hb5.size
  have HB5 : Hid (Below w.heap.size w w5) := Lib.hid (HB4.out.trans (hb5.mono (by omega)))
  have B5 := Lib.hid (B4.out.below hb5 (by omega))
  clear hb5 B4 HB4
  have d1 : w5.cell? ⟨w1.heap.size, 1, none⟩ = some (.int .i64 lim) := B5.out.cell 1
  have d2 : w5.cell? ⟨w1.heap.size, 2, none⟩ = some (.int .i64 pos) := B5.out.cell 2
  go_wp2_with fail
  refine (implSat_any (pos + lim) 4611686018427387904 w5 (HH.out _ HB5.out)).mono ?_
  rw [M6.out]
  rintro e w6 ⟨rfl, hb6⟩
  have z6 := hb6.size
  have HB6 : Hid (Below w.heap.size w w6) := Lib.hid (HB5.out.trans (hb6.mono (by omega)))
  have B6 := Lib.hid (B5.out.below hb6 (by omega))
  clear hb6 d1 d2 B5 HB5
  have d1 : w6.cell? ⟨w1.heap.size, 1, none⟩ = some (.int .i64 lim) := B6.out.cell 1
  have d2 : w6.cell? ⟨w1.heap.size, 2, none⟩ = some (.int .i64 pos) := B6.out.cell 2
  go_wp2_with fail
  refine (implSat_any pos lim w6 (HH.out _ HB6.out)).mono ?_
  rw [M7.out]
  rintro e w7 ⟨rfl, hb7⟩
  have HB7 : Hid (Below w.heap.size w w7) := Lib.hid (HB6.out.trans (hb7.mono (by omega)))
  clear hb7 d1 d2
  go_wp2
  go_ret
  exact ⟨by simp, HB7.out⟩

set_option maxRecDepth 100000 in
theorem t0 : (Tryd.prog.globals[0]?).map (·.type) = some 42 := by kernel_rfl
set_option maxRecDepth 100000 in
theorem g0 : Tryd.prog.globalNamed "loop.example/g00735/impl.errNotMoney" = some 0 := by kernel_rfl
set_option maxRecDepth 100000 in
theorem t1 : (Tryd.prog.globals[1]?).map (·.type) = some 42 := by kernel_rfl
set_option maxRecDepth 100000 in
theorem g1 : Tryd.prog.globalNamed "loop.example/g00735/impl.errNotDigits" = some 1 := by kernel_rfl
set_option maxRecDepth 100000 in
theorem cellsE : Tryd.prog.cellsOf 158 = 1 := by kernel_rfl
set_option maxRecDepth 100000 in
theorem cellsS : Tryd.prog.cellsOf 9 = 1 := by kernel_rfl
set_option maxRecDepth 100000 in
theorem star : "*" ++ "errors.errorString" = "*errors.errorString" := by decide
set_option maxRecDepth 100000 in
theorem rowE (u : TypeId) (h : Tryd.prog.typeName? 3 u = some "*errors.errorString") : u = 137 :=
  typeName_ptr_named (nm := "errors.errorString") (by rw [star]; kernel_rfl) (by kernel_rfl) (by decide) u (by rw [star]; exact h)
set_option maxRecDepth 100000 in
theorem gP : Tryd.prog.globalNamed "internal/strconv.uint64pow10" = some 3 := by kernel_rfl
set_option maxRecDepth 100000 in
theorem tP : (Tryd.prog.globals[3]?).map (·.type) = some 129 := by kernel_rfl
set_option maxRecDepth 100000 in
theorem cellsA : Tryd.prog.cellsOf 129 = 20 := by kernel_rfl
set_option maxRecDepth 100000 in
theorem cellsU : Tryd.prog.cellsOf 121 = 1 := by kernel_rfl
set_option maxRecDepth 100000 in
theorem datP : (Rows.laid_internal_strconv_uint64pow10 : DataW Unit) = Lib.tabData .u64 Lib.pow10Tab := by kernel_rfl
set_option maxRecDepth 100000 in
theorem gH : Tryd.prog.globalNamed "errors.errorType" = some 2 := by kernel_rfl
set_option maxRecDepth 100000 in
theorem rtH : (Tryd.prog.cutTypes.find? (·.1 == "internal/reflectlite.rtype")).map (·.2) = some 97 := by kernel_rfl
set_option maxRecDepth 100000 in
theorem oneH : ((List.range Tryd.prog.types.size).filter fun t => Tryd.prog.rowNamed t [101, 114, 114, 111, 114]) = [42] := by kernel_rfl
set_option maxRecDepth 100000 in
theorem handle_of {W : World} (h : handlesMet Tryd.prog [("errors.errorType", Rows.laid_errors_errorType)] W) : W.cell? ⟨2, 0, none⟩ = some (.iface 97 (.agg #[.pointer (some ⟨6, 42, none⟩)])) := by
  obtain ⟨name, u, ty, e1, e2, e3, e4, e5⟩ := h _ (List.mem_singleton.2 rfl)
  have en : name = [101, 114, 114, 111, 114] := (Option.some.inj e1).symm
  subst en
  obtain rfl := Option.some.inj (rtH.symm.trans e2)
  have hm : ty ∈ (List.range Tryd.prog.types.size).filter fun t => Tryd.prog.rowNamed t [101, 114, 114, 111, 114] := List.mem_filter.2 ⟨List.mem_range.2 e3, e4⟩
  rw [oneH] at hm
  obtain rfl := List.mem_singleton.1 hm
  have hh : typeHandle Tryd.prog 42 = .pointer (some ⟨6, 42, none⟩) := by kernel_rfl
  rw [hh] at e5
  simpa using World.var?_cell gH e5 0

set_option maxRecDepth 100000 in
theorem laidOut : laidOutB Tryd.prog = true := by kernel_rfl
set_option maxRecDepth 100000 in
theorem rowed : allRowed Tryd.prog Tryd.f3.params.toList = true := by kernel_rfl
set_option maxRecDepth 100000 in
theorem resT : Tryd.f3.resultTypes = #[4] := by kernel_rfl
set_option maxRecDepth 100000 in
theorem door_met (os : Os) (args : Array Value) : laidMetH Tryd.prog Rows.fnMoneyRow.laid ((World.doorLaid Tryd.prog 400 os).forCall (fun _ _ => 0) ⟨#[], args, []⟩).memory :=
  laidMetH_of_parts3 (fuel := 8) (laidMet_of_run' 8 (by kernel_rfl) (by kernel_rfl)) (by kernel_rfl) (by kernel_rfl)

set_option maxRecDepth 100000 in
theorem lifted (os : Os) (started : os.Started) (H : Type) (enc : TypeId × Value → H) :
    ReturnsInHanded {} Tryd.checked os 3 .any (fun w args => (Rows.fnMoneySpec.pre enc Tryd.prog Tryd.f3 [] false w args ∧ laidMetH Tryd.prog Rows.fnMoneyRow.laid w) ∧ sizedMet enc Tryd.prog Tryd.f3 (OpenSpec.ofChange Rows.fnMoneySpec) false w args)
      (Rows.fnMoneySpec.post enc Tryd.prog Tryd.f3 false true false false) := by
  refine returnsInHanded_of_change_and (C := Tryd.checked) (X := fun w _ => laidMetH Tryd.prog Rows.fnMoneyRow.laid w) (fun _ _ _ hh h => h.of_heap hh) own started (by kernel_rfl) Tryd.func3
    (ChangeSpec.witness_shaped (enc := enc) (C := Tryd.checked) (os := os) (X := fun w _ => laidMetH Tryd.prog Rows.fnMoneyRow.laid w) false (World.doorLaid Tryd.prog 400 os) #[.slice none 0 0] 8 rfl (World.shaped_of_RefB (by kernel_rfl) (by kernel_rfl)) (by kernel_rfl) (by kernel_rfl) (by kernel_rfl) (door_met os _)) ?_
  intro W base args ds gs before hval0 hW _ _ hL0 _
  have hval : ∀ (j : Nat) t v, Tryd.f3.params[j]? = some t → args[j]? = some v → Value.okWide Tryd.prog W .any base t v := hval0
  have hW' := hW
  obtain ⟨p, q, hA0, hV, rfl, hfz, hnd⟩ := hW
  have hA : DataW.TrodAll enc Tryd.prog W 0 (fun _ => true) true Tryd.f3.params.toList args.toList ds p := hA0
  rw [Tryd.params3] at hA hval
  have hh := handle_of hL0.2
  have hL : laidMet Tryd.prog [("math/bits.deBruijn32tab", Rows.laid_math_bits_deBruijn32tab), ("math/bits.deBruijn64tab", Rows.laid_math_bits_deBruijn64tab), ("internal/strconv.uint64pow10", Rows.laid_internal_strconv_uint64pow10), ("loop.example/g00735/impl.errNotMoney", Rows.laid_loop_example_g00735_impl_errNotMoney), ("loop.example/g00735/impl.errNotDigits", Rows.laid_loop_example_g00735_impl_errNotDigits)] W := hL0.1
  obtain ⟨b0, s0, hv0, _, _, _⟩ := laid_sentinel hL.tail.tail.tail g0 t0 Tryd.underlying42 rowE Tryd.underlying137 Tryd.underlying158 rfl rfl Tryd.underlying9 cellsE cellsS
  have hc0 : W.cell? ⟨0, 0, none⟩ = some (.iface 137 (.pointer (some b0))) := by simpa using World.var?_cell g0 hv0 0
  have hlt0 : 0 < W.heap.size := by
    rcases Nat.lt_or_ge 0 W.heap.size with h | h
    · exact h
    · simp [World.cell?, Array.getElem?_eq_none h] at hc0
  obtain ⟨b1, s1, hv1, _, _, _⟩ := laid_sentinel hL.tail.tail.tail.tail g1 t1 Tryd.underlying42 rowE Tryd.underlying137 Tryd.underlying158 rfl rfl Tryd.underlying9 cellsE cellsS
  have hc1 : W.cell? ⟨1, 0, none⟩ = some (.iface 137 (.pointer (some b1))) := by simpa using World.var?_cell g1 hv1 0
  have hlt1 : 1 < W.heap.size := by
    rcases Nat.lt_or_ge 1 W.heap.size with h | h
    · exact h
    · simp [World.cell?, Array.getElem?_eq_none h] at hc1
  have hT : laidMet Tryd.prog (("internal/strconv.uint64pow10", Lib.tabData .u64 Lib.pow10Tab) :: [("loop.example/g00735/impl.errNotMoney", Rows.laid_loop_example_g00735_impl_errNotMoney), ("loop.example/g00735/impl.errNotDigits", Rows.laid_loop_example_g00735_impl_errNotDigits)]) W := by rw [← datP]; exact hL.tail.tail
  have htab : Lib.TabIs Tryd.prog W "internal/strconv.uint64pow10" .u64 Lib.pow10Tab := Lib.tabIs_of_head (rest := _) gP tP Tryd.underlying129 Tryd.underlying121 cellsU cellsA hT
  obtain ⟨v0, vs0, d0, ds0, p0, q0, hargs, rfl, rfl, h0, r0⟩ := trodAll_cons hA
  obtain ⟨rfl, rfl, rfl⟩ := trodAll_nil r0
  obtain rfl : args = #[v0] := by cases args; simp_all
  obtain ⟨rfl, rfl⟩ := hV.unique (vars_read2 enc g0 t0 Tryd.underlying42 hv0 trivial g1 t1 Tryd.underlying42 hv1 trivial _)
  obtain ⟨ao0, len0, cap0, rfl, w0⟩ := open_readable (hval 0 22 v0 rfl rfl) h0
  clear hA0 hval0
  refine (walk W _ hc0 _ hc1 htab hh _ ⟨_, _, _, rfl⟩ w0).mono fun e W' ⟨he, hg⟩ => ?_
  subst he
  exact ⟨_, rfl, post_true laidOut rowed hW' rfl resT Tryd.underlying4 hg (vars_read2 enc g0 t0 Tryd.underlying42 (var?_below hg g0 hlt0 hv0) trivial g1 t1 Tryd.underlying42 (var?_below hg g1 hlt1 hv1) trivial _)⟩

set_option maxRecDepth 100000 in
theorem over : Rows.fnMoneyRow.holds Tryd.pinned (OpenSpec.ofChange Rows.fnMoneySpec) :=
  OpenClaim.holds_of_wide 3 Tryd.f3 rfl rfl rfl rfl rfl rfl rfl ⟨rfl, rfl, rfl, rfl, rfl⟩ rfl rfl rfl rfl rfl (by kernel_rfl) Tryd.func3 (by kernel_rfl)
    (of_decide_eq_true (by kernel_rfl)) (by unfold Func.isWrapper; first | (rw [if_pos (by decide +kernel)]; kernel_rfl) | (rw [if_neg (by decide +kernel)]; exact ⟨rfl, rfl⟩))
    (fun os started H enc _ => lifted os started H enc)

set_option maxRecDepth 100000 in
theorem said : Rows.FnMoneySaid :=
  over

set_option maxRecDepth 100000 in
theorem plain (f : FuncId) (fn : Func) (hf : Tryd.pinned.checked.prog.funcNamed "loop.example/g00735/laws.FnMoney" = some f) (hfn : Tryd.pinned.checked.prog.funcs[f]? = some fn) :
    Rows.fnMoneyCard.stood.looks = Tryd.pinned.checked.prog.looks [] ∧ ∀ (j : Nat) t, fn.params[j]? = some t → Tryd.pinned.checked.prog.wantsStandIn t = false := by
  obtain rfl : f = 3 := Option.some.inj ((show Tryd.prog.funcNamed "loop.example/g00735/laws.FnMoney" = some 3 by kernel_rfl).symm.trans hf) |>.symm
  obtain rfl : fn = Tryd.f3 := (Option.some.inj (Tryd.func3.symm.trans hfn)).symm
  refine ⟨by kernel_rfl, fun j t ht => ?_⟩
  rw [Tryd.params3] at ht
  have hm : t ∈ [22] := by simpa using Array.mem_of_getElem? ht
  have hall : ([22].all fun u => !Tryd.prog.wantsStandIn u) = true := by kernel_rfl
  exact (show Tryd.prog.wantsStandIn t = false by simpa using List.all_eq_true.1 hall t hm)

set_option maxRecDepth 100000 in
theorem proved : Rows.FnMoneyCardSaid :=
  Claim7.holds_tied_plain_at .later [] _ _ _ _ said (fun _ h => by cases h) (by kernel_rfl) (fun _ h => by cases h) fnMoney_row_tie rfl ⟨rfl, rfl⟩ (by kernel_rfl) rfl plain (by kernel_rfl)
#print axioms proved
end Go.Proofs.YtkbakcnhhlmpkaaDoor.fnMoney
