/- FnField: for every argument the law answers true: the program's function returns what the reference returns; the listed package variables hold what the program's text lays (tied). -/
import Derived.Test.YtfbdcjlmbflehaaDoorPost
import Derived.Test.YtfbdcjlmbflehaaDoorOpenB
import Derived.Test.YtfbdcjlmbflehaaDoorCards
import Derived.Test.YtfbdcjlmbflehaaDoorTie
import Derived.Stop.LaidErr
import Derived.LaidMore
import Derived.Stop.Joined
import Derived.SevenTiedAt
import Derived.WalkSmall
import Derived.Lib.LaidTab
import Derived.Lib.ItoaNum
import Derived.Test.YtfbdcjlmbflehaaDoorAppStep
import Derived.Test.YtfbdcjlmbflehaaDoorFieldB
import Derived.Test.YtfbdcjlmbflehaaDoorMakeF
import Derived.Test.YtfbdcjlmbflehaaDoorFit
import Derived.Test.YtfbdcjlmbflehaaDoorPutImpl
import Derived.Test.YtfbdcjlmbflehaaDoorGetImpl
import Derived.Test.YtfbdcjlmbflehaaDoorFieldOk
import Derived.Test.YtfbdcjlmbflehaaDoorFieldNos
import Derived.Test.YtfbdcjlmbflehaaDoorDoorA
namespace Go.Proofs.YtfbdcjlmbflehaaDoor.fnField
open Go.ChangeShapes Go.WideShapes Go.ChangeAt Go.RowKit
open Go.WideMaps Go.WideElems
open Go.ChangeMaps (open_string shut_string)
set_option linter.unusedVariables false

set_option maxRecDepth 100000 in
theorem walk (w : World) (p0 : Addr) (hc0 : w.cell? ⟨3, 0, none⟩ = some (.iface 138 (.pointer (some p0)))) (htab : Lib.TabIs Tryd.prog w "internal/strconv.uint64pow10" .u64 Lib.pow10Tab) (a0 : Value) (s0 : ∃ ao len cap, a0 = .slice ao len cap) (w0 : readable w w.heap.size a0) :
    Calls Tryd.prog 3 #[a0] w fun e w' => e = .returned (.bool true) ∧ Below w.heap.size w w' := by
  obtain ⟨ao, len, cap, rfl⟩ := s0
  by_cases hbig : (1048576 : Int) < (len : Int)
  · go_enter Tryd.func3, Tryd.ntmps3
    go_wp2
    go_ret
    exact ⟨rfl, Below.refl _ _⟩
  have hlen : lenOf (.slice ao len cap) ≤ 1048576 := by show len ≤ 1048576; omega
  have hg0 : 3 < w.heap.size := cell_lt hc0
  have hgp : 4 < w.heap.size := tab_lt htab
  have HC : Hid (∀ w', Below w.heap.size w w' → w'.cell? ⟨3, 0, none⟩ = some (.iface 138 (.pointer (some p0)))) := Lib.hid fun w' h => (h.cell (p := ⟨_, 0, none⟩) hg0).trans hc0
  have HT : Hid (∀ w', Below w.heap.size w w' → Lib.TabIs Tryd.prog w' "internal/strconv.uint64pow10" .u64 Lib.pow10Tab) := Lib.hid fun w' h => var?_below h (by kernel_rfl) hgp htab
  clear htab hc0
  go_enter Tryd.func3, Tryd.ntmps3
  go_wp2_with fail
  refine (makeField_any _ w w0 hlen).mono ?_
  rintro e w1 ⟨no, s, rfl, hm, hok, hb1⟩
  have z1 := hb1.size
  have h60 := fOk_60 hok
  have HM := Lib.hid hm
  have HO := Lib.hid hok
  have hpl := putFL_len no s (by omega)
  have HPB := Lib.hid (putFL_bytes hok)
  clear hm hok w0
  go_wp2_with fail
  refine (implPutField_any no s w1 (by omega) (by omega) (HT.out _ hb1)).mono ?_
  rw [HO.out]
  rintro e w2 ⟨v, rfl, hv, hb2⟩
  have hb12 := hb1.trans (hb2.mono z1)
  have z2 := hb2.size
  obtain ⟨A5, c5, rfl, hc5⟩ := hv.form
  have HV := Lib.hid hv.rd
  have HB := Lib.hid hb12
  clear hv hb1 hb2 hb12
  go_wp2_with (at_builtin; refine app_all (w2.alloc (.cells #[.int .u8 9] 5)) rfl _ _ 22 rfl w2.heap.size 5 .u8 1 Tryd.underlying22 infoU8c _ [9] rfl (ow_single _ _ _) w2.heap.size _ (putFL no s) (by rfl) (HV.out.below ((Below.refl _ _).alloc (Nat.le_refl _) _) (Nat.le_refl _)) (by unfold maxLen; simp; omega) (by simp; omega) (by simp) ?_)
  intro v3 w3 hown3 hg3 hb3
  have z3 : w2.heap.size ≤ w3.heap.size := by have := hb3.size; simp at this; omega
  have HO3 := Lib.hid hown3
  have HB3 : Hid (Below w.heap.size w w3) := Lib.hid (HB.out.trans (((Below.refl _ _).alloc (Nat.le_refl _) _).trans hb3 |>.mono (by omega)))
  clear hown3 hg3 hb3
  have hl3 : (9 :: putFL no s).length = 1 + (putFL no s).length := by simp; omega
  generalize hLL : 9 :: putFL no s = LL at HO3 hl3
  go_wp2_with (at_builtin; refine app_all (w3.alloc (.cells #[.int .u8 7] 5)) rfl _ _ 22 rfl w2.heap.size 5 .u8 1 Tryd.underlying22 infoU8c _ LL rfl (HO3.out.below ((Below.refl _ _).alloc (Nat.le_refl _) _) (Nat.le_refl _)) (w3.heap.size + 1) _ [7] (by rfl) (ow_single w3 7 5).rdOne (by unfold maxLen; simp; omega) (by simp; omega) (by simp; omega) ?_)
  intro v4 w4 hown4 hg4 hb4
  have z4 : w3.heap.size ≤ w4.heap.size := by have := hg4.size; simp at this; omega
  have HB4 : Hid (Below w.heap.size w w4) := Lib.hid (HB3.out.trans ((((Below.refl _ _).alloc (Nat.le_refl _) _).mono (by omega : w.heap.size ≤ w3.heap.size)).trans (hb4.mono (by omega))))
  have HR4 := Lib.hid hown4.nums.rd
  have HBy : Hid (isBytes (LL ++ [7])) := Lib.hid (by
    subst hLL
    intro z hz
    simp only [List.mem_append, List.mem_cons, List.not_mem_nil, or_false] at hz
    rcases hz with (rfl | hz) | rfl
    · decide
    · exact HPB.out z hz
    · decide)
  have hl4 : (LL ++ [7]).length = LL.length + 1 := by simp
  have HG : Hid (getRes (LL ++ [7]) 1 no = .returned (.tuple #[.string s, .int .i64 (1 + (putFL no s).length), .bool true])) := Lib.hid (by
    subst hLL
    exact field_back HO.out [9] [7])
  clear hown4 hg4 hb4 hLL
  generalize LL ++ [7] = L4 at HR4 HBy hl4 HG
  go_wp2_with fail
  refine (implGetField_any w4.heap.size v4 L4 1 no w4 p0 (by omega) (HC.out _ HB4.out) (by omega) (by decide) HBy.out HR4.out (Nat.le_refl _)).mono ?_
  rintro e w5 ⟨he, hb5⟩
  rw [HG.out] at he
  subst he
  have z5 := hb5.size
  have HB5 : Hid (Below w.heap.size w w5) := Lib.hid (HB4.out.trans (hb5.mono (by omega)))
  have HF : Hid (fitRes no s = s) := Lib.hid (fit_back HO.out)
  clear hb5
  go_wp2_with fail
  refine (implFieldOk_any no s w5 (by unfold maxLen; omega)).mono ?_
  rw [HO.out]
  rintro e w6 ⟨rfl, hb6⟩
  have z6 := hb6.size
  go_wp2_with fail
  refine (implFieldFit_any no s w6 (by omega)).mono ?_
  rw [HF.out]
  rintro e w7 ⟨rfl, hb7⟩
  have z7 := hb7.size
  have HB7 : Hid (Below w.heap.size w w7) := Lib.hid ((HB5.out.trans (hb6.mono (by omega))).trans (hb7.mono (by omega)))
  clear hb6 hb7
  go_wp2_with fail
  refine (implFieldNos_any w7).mono ?_
  rintro e w8 ⟨v8, rfl, hv8, hb8⟩
  have HB8 : Hid (Below w.heap.size w w8) := Lib.hid (HB7.out.trans (hb8.mono (by omega)))
  have HV8 := Lib.hid hv8
  clear hb8 hv8
  have h16 : fNos.length ≤ 1000000 := by decide
  go_wp2_with fail
  refine (has_any w8.heap.size v8 fNos no w8 h16 HV8.out.rd).mono ?_
  rintro e w9 ⟨rfl, rfl⟩
  have hm : decide (no ∈ fNos) = true := by simp [HM.out]
  rw [hm]
  go_wp2
  go_ret
  exact ⟨rfl, HB8.out⟩

open Go.Proofs.YtfbdcjlmbflehaaDoor.doora
set_option maxRecDepth 100000 in
theorem rowed : allRowed Tryd.prog Tryd.f3.params.toList = true := by kernel_rfl
set_option maxRecDepth 100000 in
theorem resT : Tryd.f3.resultTypes = #[4] := by kernel_rfl
set_option maxRecDepth 100000 in
theorem door_met (os : Os) (args : Array Value) : laidMetH Tryd.prog Rows.fnFieldRow.laid ((World.doorLaid Tryd.prog 400 os).forCall (fun _ _ => 0) ⟨#[], args, []⟩).memory := met os args

set_option maxRecDepth 100000 in
theorem lifted (os : Os) (started : os.Started) (H : Type) (enc : TypeId × Value → H) :
    ReturnsInHanded {} Tryd.checked os 3 .any (fun w args => (Rows.fnFieldSpec.pre enc Tryd.prog Tryd.f3 [] false w args ∧ laidMetH Tryd.prog Rows.fnFieldRow.laid w) ∧ sizedMet enc Tryd.prog Tryd.f3 (OpenSpec.ofChange Rows.fnFieldSpec) false w args)
      (Rows.fnFieldSpec.post enc Tryd.prog Tryd.f3 false true false false) := by
  refine returnsInHanded_of_change_and (C := Tryd.checked) (X := fun w _ => laidMetH Tryd.prog Rows.fnFieldRow.laid w) (fun _ _ _ hh h => h.of_heap hh) own started (by kernel_rfl) Tryd.func3
    (ChangeSpec.witness_shaped (enc := enc) (C := Tryd.checked) (os := os) (X := fun w _ => laidMetH Tryd.prog Rows.fnFieldRow.laid w) false (World.doorLaid Tryd.prog 400 os) #[.slice none 0 0] 8 rfl (shaped os _) (by kernel_rfl) (by kernel_rfl) (by kernel_rfl) (door_met os _)) ?_
  intro W base args ds gs before hval0 hW _ _ hL0 _
  have hval : ∀ (j : Nat) t v, Tryd.f3.params[j]? = some t → args[j]? = some v → Value.okWide Tryd.prog W .any base t v := hval0
  have hW' := hW
  obtain ⟨p, q, hA0, hV, rfl, hfz, hnd⟩ := hW
  have hA : DataW.TrodAll enc Tryd.prog W 0 (fun _ => true) true Tryd.f3.params.toList args.toList ds p := hA0
  rw [Tryd.params3] at hA hval
  have hL := hL0
  rw [MakeChecks.laidMetH_plain _ _ _ (by kernel_rfl)] at hL
  obtain ⟨b0, s0, hv0, _, _, _⟩ := laid_sentinel hL.tail.tail.tail g0 t0 Tryd.underlying80 rowE Tryd.underlying138 Tryd.underlying152 rfl rfl Tryd.underlying9 cellsE cellsS
  have hc0 : W.cell? ⟨3, 0, none⟩ = some (.iface 138 (.pointer (some b0))) := by simpa using World.var?_cell g0 hv0 0
  have hlt0 : 3 < W.heap.size := by
    rcases Nat.lt_or_ge 3 W.heap.size with h | h
    · exact h
    · simp [World.cell?, Array.getElem?_eq_none h] at hc0
  have hT : laidMet Tryd.prog (("internal/strconv.uint64pow10", Lib.tabData .u64 Lib.pow10Tab) :: [("loop.example/g00735/impl.errNotDigits", Rows.laid_loop_example_g00735_impl_errNotDigits)]) W := by rw [← datP]; exact hL.tail.tail
  have htab : Lib.TabIs Tryd.prog W "internal/strconv.uint64pow10" .u64 Lib.pow10Tab := Lib.tabIs_of_head (rest := _) gP tP Tryd.underlying132 Tryd.underlying99 cellsU cellsA hT
  obtain ⟨v0, vs0, d0, ds0, p0, q0, hargs, rfl, rfl, h0, r0⟩ := trodAll_cons hA
  obtain ⟨rfl, rfl, rfl⟩ := trodAll_nil r0
  obtain rfl : args = #[v0] := by cases args; simp_all
  obtain ⟨rfl, rfl⟩ := hV.unique (vars_read1 enc g0 t0 Tryd.underlying80 hv0 trivial _)
  obtain ⟨ao0, len0, cap0, rfl, w0⟩ := open_readable (hval 0 22 v0 rfl rfl) h0
  clear hA0 hval0
  refine (walk W _ hc0 htab _ ⟨_, _, _, rfl⟩ w0).mono fun e W' ⟨he, hg⟩ => ?_
  subst he
  exact ⟨_, rfl, post_true laidOut rowed hW' rfl resT Tryd.underlying4 hg (vars_read1 enc g0 t0 Tryd.underlying80 (var?_below hg g0 hlt0 hv0) trivial _)⟩

set_option maxRecDepth 100000 in
theorem over : Rows.fnFieldRow.holds Tryd.pinned (OpenSpec.ofChange Rows.fnFieldSpec) :=
  OpenClaim.holds_of_wide 3 Tryd.f3 rfl rfl rfl rfl rfl rfl rfl ⟨rfl, rfl, rfl, rfl, rfl⟩ rfl rfl rfl rfl rfl (by kernel_rfl) Tryd.func3 (by kernel_rfl)
    (of_decide_eq_true (by kernel_rfl)) (by unfold Func.isWrapper; first | (rw [if_pos (by decide +kernel)]; kernel_rfl) | (rw [if_neg (by decide +kernel)]; exact ⟨rfl, rfl⟩))
    (fun os started H enc _ => lifted os started H enc)

set_option maxRecDepth 100000 in
theorem said : Rows.FnFieldSaid :=
  over

set_option maxRecDepth 100000 in
theorem plain (f : FuncId) (fn : Func) (hf : Tryd.pinned.checked.prog.funcNamed "loop.example/g00735/laws.FnField" = some f) (hfn : Tryd.pinned.checked.prog.funcs[f]? = some fn) :
    Rows.fnFieldCard.stood.looks = Tryd.pinned.checked.prog.looks [] ∧ ∀ (j : Nat) t, fn.params[j]? = some t → Tryd.pinned.checked.prog.wantsStandIn t = false := by
  obtain rfl : f = 3 := Option.some.inj ((show Tryd.prog.funcNamed "loop.example/g00735/laws.FnField" = some 3 by kernel_rfl).symm.trans hf) |>.symm
  obtain rfl : fn = Tryd.f3 := (Option.some.inj (Tryd.func3.symm.trans hfn)).symm
  refine ⟨looks, fun j t ht => ?_⟩
  rw [Tryd.params3] at ht
  have hm : t ∈ [22] := by simpa using Array.mem_of_getElem? ht
  have hall : ([22].all fun u => !Tryd.prog.wantsStandIn u) = true := by kernel_rfl
  exact (show Tryd.prog.wantsStandIn t = false by simpa using List.all_eq_true.1 hall t hm)

set_option maxRecDepth 100000 in
theorem proved : Rows.FnFieldCardSaid :=
  Claim7.holds_tied_plain_at .later [] _ _ _ _ said (fun _ h => by cases h) (by kernel_rfl) (fun _ h => by cases h) fnField_row_tie rfl ⟨rfl, rfl⟩ mainIs rfl plain (by kernel_rfl)
#print axioms proved
end Go.Proofs.YtfbdcjlmbflehaaDoor.fnField
