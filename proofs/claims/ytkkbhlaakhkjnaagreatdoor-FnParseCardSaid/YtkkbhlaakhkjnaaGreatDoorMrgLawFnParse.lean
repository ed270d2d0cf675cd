/- FnParse: for every argument the law answers true: the program's function returns what the reference returns; the listed package variables hold what the program's text lays (tied). -/
import Derived.Test.YtkkbhlaakhkjnaaGreatDoorPost
import Derived.Test.YtkkbhlaakhkjnaaGreatDoorOpenB
import Derived.Test.YtkkbhlaakhkjnaaGreatDoorCards
import Derived.Test.YtkkbhlaakhkjnaaGreatDoorTie
import Derived.Stop.LaidErr
import Derived.LaidMore
import Derived.Stop.Joined
import Derived.SevenTiedAt
import Derived.WalkSmall
import Derived.Lib.LaidTab
import Derived.Lib.ItoaNum
import Derived.Test.YtkkbhlaakhkjnaaGreatDoorMrg4
import Derived.Test.YtkkbhlaakhkjnaaGreatDoorMrgSmall
import Derived.Test.YtkkbhlaakhkjnaaGreatDoorMrgAppStep
import Derived.Test.YtkkbhlaakhkjnaaGreatDoorDoorZ
namespace Go.Proofs.YtkkbhlaakhkjnaaGreatDoor.fnParse
open Go.ChangeShapes Go.WideShapes Go.ChangeAt Go.RowKit
open Go.WideMaps Go.WideElems
open Go.ChangeMaps (open_string shut_string)
set_option linter.unusedVariables false

set_option maxRecDepth 100000 in
set_option maxHeartbeats 8000000 in
theorem walk (w : World) (p0 : Addr) (hc0 : w.cell? ⟨1, 0, none⟩ = some (.iface 183 (.pointer (some p0)))) (htab : Lib.TabIs Tryz.prog w "internal/strconv.uint64pow10" .u64 Lib.pow10Tab) (a0 : Value) (s0 : ∃ ao len cap, a0 = .slice ao len cap) (w0 : readable w w.heap.size a0) :
    Calls Tryz.prog 6 #[a0] w fun e w' => e = .returned (.bool true) ∧ Below w.heap.size w w' := by
  have HB0 : Hid (Below w.heap.size w w) := Lib.hid (Below.refl _ _)
  have hB0 : Below w.heap.size w w := Below.refl _ _
  obtain ⟨ao, len, cap, rfl⟩ := s0
  by_cases hbig : (1048576 : Int) < (len : Int)
  · clear w0
    go_enter Tryz.func6, Tryz.ntmps6
    go_wp2
    go_ret
    exact ⟨rfl, HB0.out⟩
  have hlen : lenOf (.slice ao len cap) ≤ 1048576 := by show len ≤ 1048576; omega
  have hlt := cell_lt hc0
  have hgt := tab_lt htab
  have HCE : Hid (∀ w', Below w.heap.size w w' → w'.cell? ⟨1, 0, none⟩ = some (.iface 183 (.pointer (some p0)))) := Lib.hid fun w' h => (h.cell (p := ⟨_, 0, none⟩) hlt).trans hc0
  have HT : Hid (∀ w', Below w.heap.size w w' → Lib.TabIs Tryz.prog w' "internal/strconv.uint64pow10" .u64 Lib.pow10Tab) := Lib.hid fun w' h => var?_below h (by kernel_rfl) hgt htab
  have HRD := Lib.hid w0
  clear hc0 htab w0
  go_enter Tryz.func6, Tryz.ntmps6
  go_wp2_with fail
  refine (makeMsg_any _ w HRD.out hlen).mono ?_
  rintro e w1 ⟨m, u1, rfl, hok, hu1, hb1⟩
  obtain ⟨A1, c1, rfl, -⟩ := Rep.slice_form hu1.rd
  have z1 : w.heap.size ≤ w1.heap.size := hb1.size
  have hB1 := hB0.trans (hb1.mono (show w.heap.size ≤ _ by omega))
  have HM := Lib.hid hu1
  have HOK := Lib.hid hok
  obtain ⟨hsz, hml, hms, hmx⟩ := ok_small hok
  have HMS := Lib.hid hms
  clear hok hms hmx
  go_wp2_with fail
  have hb2 := (Below.refl w1.heap.size w1).alloc (Nat.le_refl _) (.cells #[.string m.1, .slice A1 m.2.length c1] 31)
  have hXM := heap_alloc_new w1 (.cells #[.string m.1, .slice A1 m.2.length c1] 31)
  generalize w1.alloc (.cells #[.string m.1, .slice A1 m.2.length c1] 31) = w2 at hb2 hXM ⊢
  have z2 : w1.heap.size ≤ w2.heap.size := hb2.size
  have zl2 : w1.heap.size < w2.heap.size := lt_of_block hXM
  have hB2 := hB1.trans (hb2.mono (show w.heap.size ≤ _ by omega))
  replace HM := Lib.hid (HM.out.below hb2 (by omega))
  have XM := Lib.hid hXM
  clear hXM
  have XMc0 := cell_of_row _ _ 0 _ _ (0, 0) XM.out
  have XMc1 := cell_of_row _ _ 1 _ _ (0, 0) XM.out
  simp only [List.getElem?_toArray, List.getElem?_cons_zero, List.getElem?_cons_succ] at XMc0 XMc1
  go_wp2_with fail
  refine (implEncode_any _ _ m w2 (by omega) (by omega) HMS.out HM.out.rd (by omega) (by omega) (HT.out _ (HB0.out.trans (hB2.mono (by omega))))).mono ?_
  rintro e w3 ⟨u3, rfl, hu3, hb3⟩
  rw [HOK.out]
  obtain ⟨AE, cE, rfl, hcE⟩ := hu3.form
  have z3 : w2.heap.size ≤ w3.heap.size := hb3.size
  have hB3 := hB2.trans (hb3.mono (show w.heap.size ≤ _ by omega))
  replace HM := Lib.hid (HM.out.below hb3 (by omega))
  replace XM := Lib.hid ((hb3.block _ (by omega)).trans XM.out)
  have EB := Lib.hid hu3
  clear XMc0 XMc1
  have XMc0 := cell_of_row _ _ 0 _ _ (0, 0) XM.out
  have XMc1 := cell_of_row _ _ 1 _ _ (0, 0) XM.out
  simp only [List.getElem?_toArray, List.getElem?_cons_zero, List.getElem?_cons_succ] at XMc0 XMc1
  have hel := encL_len m
  have HBY := Lib.hid (encL_bytes HOK.out)
  have HPR := Lib.hid (parse_back HOK.out)
  have HPW : Hid (parseRes (encL m ++ [0]) = ((⟨#[]⟩, []), 4)) := Lib.hid (by rw [parse_with HOK.out]; simp)
  have hE2 := enc_small HOK.out
  generalize encL m = el at hel HBY HPR HPW hE2 EB hcE ⊢
  go_wp2_with fail
  refine (implParse_any _ _ el w3 p0 (by omega) (HCE.out _ (HB0.out.trans (hB3.mono (by omega)))) (by omega) HBY.out EB.out.rd (by omega)).mono ?_
  rintro e w4 ⟨u4, rfl, hu4, hb4⟩
  rw [HPR.out] at hu4 ⊢
  obtain ⟨A4, c4, rfl, -⟩ := Rep.slice_form hu4.rd
  have z4 : w3.heap.size ≤ w4.heap.size := hb4.size
  have hB4 := hB3.trans (hb4.mono (show w.heap.size ≤ _ by omega))
  replace HM := Lib.hid (HM.out.below hb4 (by omega))
  replace XM := Lib.hid ((hb4.block _ (by omega)).trans XM.out)
  replace EB := Lib.hid (EB.out.below hb4 (by omega))
  have HR := Lib.hid hu4
  clear XMc0 XMc1
  have XMc0 := cell_of_row _ _ 0 _ _ (0, 0) XM.out
  have XMc1 := cell_of_row _ _ 1 _ _ (0, 0) XM.out
  simp only [List.getElem?_toArray, List.getElem?_cons_zero, List.getElem?_cons_succ] at XMc0 XMc1
  have yy4XM : w1.heap.size < w4.heap.size := by omega
  go_wp2_with fail
  have hb5 := (Below.refl w4.heap.size w4).alloc (Nat.le_refl _) (.cells #[.string m.1, .slice A4 m.2.length c4] 31)
  have hXR := heap_alloc_new w4 (.cells #[.string m.1, .slice A4 m.2.length c4] 31)
  generalize w4.alloc (.cells #[.string m.1, .slice A4 m.2.length c4] 31) = w5 at hb5 hXR ⊢
  have z5 : w4.heap.size ≤ w5.heap.size := hb5.size
  have zl5 : w4.heap.size < w5.heap.size := lt_of_block hXR
  have hB5 := hB4.trans (hb5.mono (show w.heap.size ≤ _ by omega))
  replace HM := Lib.hid (HM.out.below hb5 (by omega))
  replace XM := Lib.hid ((hb5.block _ (by omega)).trans XM.out)
  replace EB := Lib.hid (EB.out.below hb5 (by omega))
  replace HR := Lib.hid (HR.out.below hb5 (by omega))
  have XR := Lib.hid hXR
  clear hXR
  have XRc0 := cell_of_row _ _ 0 _ _ (0, 0) XR.out
  have XRc1 := cell_of_row _ _ 1 _ _ (0, 0) XR.out
  simp only [List.getElem?_toArray, List.getElem?_cons_zero, List.getElem?_cons_succ] at XRc0 XRc1
  go_wp2_with fail
  refine (implMsgSame_any _ _ _ _ m m w5 (by omega) (by omega) HR.out.rd HM.out.rd (by omega) (by omega)).mono ?_
  rintro e w6 ⟨rfl, hb6⟩
  rw [show decide (m = m) = true by simp]
  have z6 : w5.heap.size ≤ w6.heap.size := hb6.size
  have hB6 := hB5.trans (hb6.mono (show w.heap.size ≤ _ by omega))
  replace HM := Lib.hid (HM.out.below hb6 (by omega))
  replace XM := Lib.hid ((hb6.block _ (by omega)).trans XM.out)
  replace EB := Lib.hid (EB.out.below hb6 (by omega))
  replace HR := Lib.hid (HR.out.below hb6 (by omega))
  replace XR := Lib.hid ((hb6.block _ (by omega)).trans XR.out)
  clear XMc0 XMc1
  clear XRc0 XRc1
  have XMc0 := cell_of_row _ _ 0 _ _ (0, 0) XM.out
  have XMc1 := cell_of_row _ _ 1 _ _ (0, 0) XM.out
  simp only [List.getElem?_toArray, List.getElem?_cons_zero, List.getElem?_cons_succ] at XMc0 XMc1
  have XRc0 := cell_of_row _ _ 0 _ _ (0, 0) XR.out
  have XRc1 := cell_of_row _ _ 1 _ _ (0, 0) XR.out
  simp only [List.getElem?_toArray, List.getElem?_cons_zero, List.getElem?_cons_succ] at XRc0 XRc1
  have HW0 := Lib.hid (HB0.out.trans (hB6.mono (by omega)))
  have hO0 := Lib.hid (ow_blank 5 .u8 w.heap.size w6 (by omega))
  have HB1 := Lib.hid (HW0.out.alloc (show w.heap.size ≤ w6.heap.size by omega) (.cells #[] 5))
  have EB1 := Lib.hid (EB.out.below ((Below.refl w6.heap.size w6).alloc (Nat.le_refl _) (.cells #[] 5)) (by omega))
  go_wp2_with (at_builtin; refine app_all (w6.alloc (.cells #[] 5)) rfl _ _ 26 rfl w.heap.size 5 .u8 1 Tryz.underlying26 infoU8c _ [] rfl hO0.out _ _ el (by rfl) EB1.out.rd (by unfold maxLen; simp <;> omega) (by simp <;> omega) (by simp; omega) ?_)
  intro v8 w8 hown8 hg8 hb8
  obtain ⟨A8, c8, rfl, hc8⟩ := hown8.nums.form
  have HO8 := Lib.hid hown8
  have HB8 := Lib.hid (HB1.out.trans hb8)
  have z8 : w.heap.size ≤ w8.heap.size := HB8.out.size
  have HO9 := Lib.hid (HO8.out.below ((Below.refl w8.heap.size w8).alloc (Nat.le_refl _) (.cells #[.int .u8 0] 5)) (Nat.le_refl _))
  have HS9 := Lib.hid (ow_at (W := w8.alloc (.cells #[.int .u8 0] 5)) (K := .u8) (B := w.heap.size) (heap_alloc_new w8 (.cells #[.int .u8 0] 5)) z8).nums.rd
  clear hown8 hg8 hb8
  go_wp2_with (at_builtin; refine app_all (w8.alloc (.cells #[.int .u8 0] 5)) rfl _ _ 26 rfl w.heap.size 5 .u8 1 Tryz.underlying26 infoU8c _ el rfl HO9.out _ _ [0] (by rfl) HS9.out (by unfold maxLen; simp <;> omega) (by simp <;> omega) (by simp; omega) ?_)
  intro v9 w9 hown9 hg9 hb9
  obtain ⟨A9, c9, rfl, hc9⟩ := hown9.nums.form
  have HO10 := Lib.hid hown9.nums.rd
  have HB9 := Lib.hid ((HB8.out.alloc z8 (.cells #[.int .u8 0] 5)).trans hb9)
  have z9 : w.heap.size ≤ w9.heap.size := HB9.out.size
  have HBY2 : Hid (isBytes (el ++ [0])) := Lib.hid (isBytes_app HBY.out (by intro z hz; rw [List.mem_singleton.1 hz]; omega))
  have hl2 : (el ++ [0]).length ≤ 1048577 := by simp; omega
  clear hown9 hg9 hb9
  generalize el ++ [0] = el2 at HO10 HBY2 HPW hl2 hc9 ⊢
  go_wp2_with fail
  refine (implParse_any _ _ el2 w9 p0 (by omega) (HCE.out _ HB9.out) hl2 HBY2.out HO10.out (by omega)).mono ?_
  rw [HPW.out]
  rintro e w10 ⟨u10, rfl, hu10, hb10⟩
  obtain ⟨A10, c10, rfl, -⟩ := Rep.slice_form hu10.rd
  have HB10 := Lib.hid (HB9.out.trans (hb10.mono z9))
  clear hu10 hb10
  go_wp2
  go_ret
  exact ⟨rfl, HB10.out.alloc HB10.out.size _⟩

open Go.Proofs.YtkkbhlaakhkjnaaGreatDoor.doorz
set_option maxRecDepth 100000 in
theorem rowed : allRowed Tryz.prog Tryz.f6.params.toList = true := by kernel_rfl
set_option maxRecDepth 100000 in
theorem resT : Tryz.f6.resultTypes = #[4] := by kernel_rfl
set_option maxRecDepth 100000 in
theorem door_met (os : Os) (args : Array Value) : laidMetH Tryz.prog Rows.fnParseRow.laid ((World.doorLaid Tryz.prog 400 os).forCall (fun _ _ => 0) ⟨#[], args, []⟩).memory := met os args

set_option maxRecDepth 100000 in
theorem lifted (os : Os) (started : os.Started) (H : Type) (enc : TypeId × Value → H) :
    ReturnsInHanded {} Tryz.checked os 6 .any (fun w args => (Rows.fnParseSpec.pre enc Tryz.prog Tryz.f6 [] false w args ∧ laidMetH Tryz.prog Rows.fnParseRow.laid w) ∧ sizedMet enc Tryz.prog Tryz.f6 (OpenSpec.ofChange Rows.fnParseSpec) false w args)
      (Rows.fnParseSpec.post enc Tryz.prog Tryz.f6 false true false false) := by
  refine returnsInHanded_of_change_and (C := Tryz.checked) (X := fun w _ => laidMetH Tryz.prog Rows.fnParseRow.laid w) (fun _ _ _ hh h => h.of_heap hh) own started (by kernel_rfl) Tryz.func6
    (ChangeSpec.witness_shaped (enc := enc) (C := Tryz.checked) (os := os) (X := fun w _ => laidMetH Tryz.prog Rows.fnParseRow.laid w) false (World.doorLaid Tryz.prog 400 os) #[.slice none 0 0] 8 rfl (shaped os _) (by kernel_rfl) (by kernel_rfl) (by kernel_rfl) (door_met os _)) ?_
  intro W base args ds gs before hval0 hW _ _ hL0 _
  have hval : ∀ (j : Nat) t v, Tryz.f6.params[j]? = some t → args[j]? = some v → Value.okWide Tryz.prog W .any base t v := hval0
  have hW' := hW
  obtain ⟨p, q, hA0, hV, rfl, hfz, hnd⟩ := hW
  have hA : DataW.TrodAll enc Tryz.prog W 0 (fun _ => true) true Tryz.f6.params.toList args.toList ds p := hA0
  rw [Tryz.params6] at hA hval
  have hL := hL0
  rw [MakeChecks.laidMetH_plain _ _ _ (by kernel_rfl)] at hL
  obtain ⟨b0, s0, hv0, _, _, _⟩ := laid_sentinel hL.tail.tail.tail g0 t0 Tryz.underlying151 rowE Tryz.underlying183 Tryz.underlying197 rfl rfl Tryz.underlying9 cellsE cellsS
  have hc0 : W.cell? ⟨1, 0, none⟩ = some (.iface 183 (.pointer (some b0))) := by simpa using World.var?_cell g0 hv0 0
  have hlt0 : 1 < W.heap.size := by
    rcases Nat.lt_or_ge 1 W.heap.size with h | h
    · exact h
    · simp [World.cell?, Array.getElem?_eq_none h] at hc0
  have hT : laidMet Tryz.prog (("internal/strconv.uint64pow10", Lib.tabData .u64 Lib.pow10Tab) :: [("loop.example/g00735/impl.errNotDigits", Rows.laid_loop_example_g00735_impl_errNotDigits)]) W := by rw [← datP]; exact hL.tail.tail
  have htab : Lib.TabIs Tryz.prog W "internal/strconv.uint64pow10" .u64 Lib.pow10Tab := Lib.tabIs_of_head (rest := _) gP tP Tryz.underlying179 Tryz.underlying136 cellsU cellsA hT
  obtain ⟨v0, vs0, d0, ds0, p0, q0, hargs, rfl, rfl, h0, r0⟩ := trodAll_cons hA
  obtain ⟨rfl, rfl, rfl⟩ := trodAll_nil r0
  obtain rfl : args = #[v0] := by cases args; simp_all
  obtain ⟨rfl, rfl⟩ := hV.unique (vars_read1 enc g0 t0 Tryz.underlying151 hv0 trivial _)
  obtain ⟨ao0, len0, cap0, rfl, w0⟩ := open_readable (hval 0 26 v0 rfl rfl) h0
  clear hA0 hval0
  refine (walk W _ hc0 htab _ ⟨_, _, _, rfl⟩ w0).mono fun e W' ⟨he, hg⟩ => ?_
  subst he
  exact ⟨_, rfl, post_true laidOut rowed hW' rfl resT Tryz.underlying4 hg (vars_read1 enc g0 t0 Tryz.underlying151 (var?_below hg g0 hlt0 hv0) trivial _)⟩

set_option maxRecDepth 100000 in
theorem over : Rows.fnParseRow.holds Tryz.pinned (OpenSpec.ofChange Rows.fnParseSpec) :=
  OpenClaim.holds_of_wide 6 Tryz.f6 rfl rfl rfl rfl rfl rfl rfl ⟨rfl, rfl, rfl, rfl, rfl⟩ rfl rfl rfl rfl rfl (by kernel_rfl) Tryz.func6 (by kernel_rfl)
    (of_decide_eq_true (by kernel_rfl)) (by unfold Func.isWrapper; first | (rw [if_pos (by decide +kernel)]; kernel_rfl) | (rw [if_neg (by decide +kernel)]; exact ⟨rfl, rfl⟩))
    (fun os started H enc _ => lifted os started H enc)

set_option maxRecDepth 100000 in
theorem said : Rows.FnParseSaid :=
  over

set_option maxRecDepth 100000 in
theorem plain (f : FuncId) (fn : Func) (hf : Tryz.pinned.checked.prog.funcNamed "loop.example/g00735/laws.FnParse" = some f) (hfn : Tryz.pinned.checked.prog.funcs[f]? = some fn) :
    Rows.fnParseCard.stood.looks = Tryz.pinned.checked.prog.looks [] ∧ ∀ (j : Nat) t, fn.params[j]? = some t → Tryz.pinned.checked.prog.wantsStandIn t = false := by
  obtain rfl : f = 6 := Option.some.inj ((show Tryz.prog.funcNamed "loop.example/g00735/laws.FnParse" = some 6 by kernel_rfl).symm.trans hf) |>.symm
  obtain rfl : fn = Tryz.f6 := (Option.some.inj (Tryz.func6.symm.trans hfn)).symm
  refine ⟨looks, fun j t ht => ?_⟩
  rw [Tryz.params6] at ht
  have hm : t ∈ [26] := by simpa using Array.mem_of_getElem? ht
  have hall : ([26].all fun u => !Tryz.prog.wantsStandIn u) = true := by kernel_rfl
  exact (show Tryz.prog.wantsStandIn t = false by simpa using List.all_eq_true.1 hall t hm)

set_option maxRecDepth 100000 in
theorem proved : Rows.FnParseCardSaid :=
  Claim7.holds_tied_plain_at .later [] _ _ _ _ said (fun _ h => by cases h) (by kernel_rfl) (fun _ h => by cases h) fnParse_row_tie rfl ⟨rfl, rfl⟩ mainIs rfl plain (by kernel_rfl)
#print axioms proved
end Go.Proofs.YtkkbhlaakhkjnaaGreatDoor.fnParse
