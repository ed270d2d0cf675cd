/- FnBytes: for every argument the law answers true: the program's function returns what the reference returns; the listed package variables hold what the program's text lays (tied). -/
import Derived.Test.YtkkbhlaakhkjnaaGreatDoorPost
import Derived.Test.YtkkbhlaakhkjnaaGreatDoorOpenB
import Derived.Test.YtkkbhlaakhkjnaaGreatDoorCards
import Derived.Test.YtkkbhlaakhkjnaaGreatDoorTie
import Derived.Stop.LaidErr
import Derived.LaidMore
import Derived.Stop.Joined
import Derived.SevenTiedAt
import Derived.WalkSmall
import Derived.Lib.LaidTab
import Derived.Lib.ItoaNum
import Derived.Test.YtkkbhlaakhkjnaaGreatDoorMrg4
import Derived.Test.YtkkbhlaakhkjnaaGreatDoorMrg2
import Derived.Test.YtkkbhlaakhkjnaaGreatDoorMrg3
import Derived.Test.YtkkbhlaakhkjnaaGreatDoorMrgBytes
import Derived.Test.YtkkbhlaakhkjnaaGreatDoorMrgSmall
import Derived.Test.YtkkbhlaakhkjnaaGreatDoorDoorZ
namespace Go.Proofs.YtkkbhlaakhkjnaaGreatDoor.fnBytes
open Go.ChangeShapes Go.WideShapes Go.ChangeAt Go.RowKit
open Go.WideMaps Go.WideElems
open Go.ChangeMaps (open_string shut_string)
set_option linter.unusedVariables false

set_option maxRecDepth 100000 in
set_option maxHeartbeats 8000000 in
theorem walk (w : World) (p0 : Addr) (hc0 : w.cell? ⟨1, 0, none⟩ = some (.iface 183 (.pointer (some p0)))) (htab : Lib.TabIs Tryz.prog w "internal/strconv.uint64pow10" .u64 Lib.pow10Tab) (a0 : Value) (s0 : ∃ ao len cap, a0 = .slice ao len cap) (w0 : readable w w.heap.size a0) :
    Calls Tryz.prog 7 #[a0] w fun e w' => e = .returned (.bool true) ∧ Below w.heap.size w w' := by
  have HB0 : Hid (Below w.heap.size w w) := Lib.hid (Below.refl _ _)
  have hB0 : Below w.heap.size w w := Below.refl _ _
  obtain ⟨ao, len, cap, rfl⟩ := s0
  by_cases hbig : (1048576 : Int) < (len : Int)
  · clear w0
    go_enter Tryz.func7, Tryz.ntmps7
    go_wp2
    go_ret
    exact ⟨rfl, HB0.out⟩
  have hlen : lenOf (.slice ao len cap) ≤ 1048576 := by show len ≤ 1048576; omega
  have hlt := cell_lt hc0
  have hgt := tab_lt htab
  have HCE : Hid (∀ w', Below w.heap.size w w' → w'.cell? ⟨1, 0, none⟩ = some (.iface 183 (.pointer (some p0)))) := Lib.hid fun w' h => (h.cell (p := ⟨_, 0, none⟩) hlt).trans hc0
  have HT : Hid (∀ w', Below w.heap.size w w' → Lib.TabIs Tryz.prog w' "internal/strconv.uint64pow10" .u64 Lib.pow10Tab) := Lib.hid fun w' h => var?_below h (by kernel_rfl) hgt htab
  have HRD := Lib.hid w0
  clear hc0 htab w0
  go_enter Tryz.func7, Tryz.ntmps7
  go_wp2_with fail
  refine (makeBytes_any _ w HRD.out hlen).mono ?_
  rintro e w1 ⟨u1, L, rfl, hu1, hy1, hl1, hb1⟩
  obtain ⟨A1, c1, rfl, -⟩ := hu1.form
  have z1 : w.heap.size ≤ w1.heap.size := hb1.size
  have hB1 := hB0.trans (hb1.mono (show w.heap.size ≤ _ by omega))
  have HL := Lib.hid hu1
  have HY := Lib.hid hy1
  clear hy1 hu1
  rcases parse_code L with hq0 | ⟨hq1, hq4, hqm⟩
  · have HPR : Hid (parseRes L = ((parseRes L).1, 0)) := Lib.hid (Prod.ext rfl hq0)
    clear hq0
    generalize (parseRes L).1 = m at HPR
    obtain ⟨hok, hel⟩ := parse_only HY.out HPR.out
    have HOK := Lib.hid hok
    have HEL := Lib.hid hel
    obtain ⟨hsz, hml, hms, hmx⟩ := ok_small hok
    have hs1 : m.1.size ≤ maxLen := by unfold maxLen; omega
    have HMS := Lib.hid hms
    have HMX := Lib.hid hmx
    clear hok hel hms hmx
    go_wp2_with fail
    refine (implParse_any _ _ L w1 p0 (by omega) (HCE.out _ (HB0.out.trans (hB1.mono (by omega)))) (by omega) HY.out HL.out (by omega)).mono ?_
    rintro e w2 ⟨u2, rfl, hu2, hb2⟩
    rw [HPR.out] at hu2 ⊢
    obtain ⟨A2, c2, rfl, -⟩ := Rep.slice_form hu2.rd
    have z2 : w1.heap.size ≤ w2.heap.size := hb2.size
    have hB2 := hB1.trans (hb2.mono (show w.heap.size ≤ _ by omega))
    replace HL := Lib.hid (HL.out.below hb2 (by omega))
    have HR := Lib.hid hu2
    clear hu2
    go_wp2_with fail
    have hb3 := (Below.refl w2.heap.size w2).alloc (Nat.le_refl _) (.cells #[.string m.1, .slice A2 m.2.length c2] 31)
    have hXR := heap_alloc_new w2 (.cells #[.string m.1, .slice A2 m.2.length c2] 31)
    generalize w2.alloc (.cells #[.string m.1, .slice A2 m.2.length c2] 31) = w3 at hb3 hXR ⊢
    have z3 : w2.heap.size ≤ w3.heap.size := hb3.size
    have zl3 : w2.heap.size < w3.heap.size := lt_of_block hXR
    have hB3 := hB2.trans (hb3.mono (show w.heap.size ≤ _ by omega))
    replace HL := Lib.hid (HL.out.below hb3 (by omega))
    replace HR := Lib.hid (HR.out.below hb3 (by omega))
    have XR := Lib.hid hXR
    clear hXR
    have XRc0 := cell_of_row _ _ 0 _ _ (0, 0) XR.out
    have XRc1 := cell_of_row _ _ 1 _ _ (0, 0) XR.out
    simp only [List.getElem?_toArray, List.getElem?_cons_zero, List.getElem?_cons_succ] at XRc0 XRc1
    go_wp2_with fail
    refine (implEncode_any _ _ m w3 (by omega) (by omega) HMS.out HR.out.rd (by omega) (by omega) (HT.out _ (HB0.out.trans (hB3.mono (by omega))))).mono ?_
    rintro e w4 ⟨u4, rfl, hu4, hb4⟩
    rw [HOK.out]
    rw [HEL.out] at hu4
    obtain ⟨AE, cE, rfl, -⟩ := hu4.form
    have z4 : w3.heap.size ≤ w4.heap.size := hb4.size
    have hB4 := hB3.trans (hb4.mono (show w.heap.size ≤ _ by omega))
    replace HL := Lib.hid (HL.out.below hb4 (by omega))
    replace HR := Lib.hid (HR.out.below hb4 (by omega))
    replace XR := Lib.hid ((hb4.block _ (by omega)).trans XR.out)
    have EB := Lib.hid hu4
    clear XRc0 XRc1
    have XRc0 := cell_of_row _ _ 0 _ _ (0, 0) XR.out
    have XRc1 := cell_of_row _ _ 1 _ _ (0, 0) XR.out
    simp only [List.getElem?_toArray, List.getElem?_cons_zero, List.getElem?_cons_succ] at XRc0 XRc1
    have hst1 := str_of_rd EB.out.rd
    have hst2 := str_of_rd HL.out
    generalize (⟨(L.map byteOf).toArray⟩ : ByteArray) = tx at hst1 hst2
    go_wp2_with fail
    refine (implMsgOk_any _ _ m w4 hs1 (by omega) HMX.out HR.out.rd (by omega)).mono ?_
    rintro e w5 ⟨rfl, hb5⟩
    rw [HOK.out]
    have z5 : w4.heap.size ≤ w5.heap.size := hb5.size
    have hB5 := hB4.trans (hb5.mono (show w.heap.size ≤ _ by omega))
    replace HL := Lib.hid (HL.out.below hb5 (by omega))
    replace HR := Lib.hid (HR.out.below hb5 (by omega))
    replace XR := Lib.hid ((hb5.block _ (by omega)).trans XR.out)
    replace EB := Lib.hid (EB.out.below hb5 (by omega))
    clear XRc0 XRc1
    have XRc0 := cell_of_row _ _ 0 _ _ (0, 0) XR.out
    have XRc1 := cell_of_row _ _ 1 _ _ (0, 0) XR.out
    simp only [List.getElem?_toArray, List.getElem?_cons_zero, List.getElem?_cons_succ] at XRc0 XRc1
    go_wp2
    go_ret
    exact ⟨rfl, (HB0.out.trans (hB5.mono (by omega)))⟩
  · have HPR : Hid (parseRes L = ((⟨#[]⟩, []), (parseRes L).2)) := Lib.hid (Prod.ext hqm rfl)
    clear hqm
    generalize (parseRes L).2 = code at HPR hq1 hq4
    go_wp2_with fail
    refine (implParse_any _ _ L w1 p0 (by omega) (HCE.out _ (HB0.out.trans (hB1.mono (by omega)))) (by omega) HY.out HL.out (by omega)).mono ?_
    rintro e w2 ⟨u2, rfl, hu2, hb2⟩
    rw [HPR.out] at hu2 ⊢
    obtain ⟨A2, c2, rfl, -⟩ := Rep.slice_form hu2.rd
    have z2 : w1.heap.size ≤ w2.heap.size := hb2.size
    have hB2 := hB1.trans (hb2.mono (show w.heap.size ≤ _ by omega))
    replace HL := Lib.hid (HL.out.below hb2 (by omega))
    have HR := Lib.hid hu2
    clear hu2
    go_wp2
    go_ret
    exact ⟨rfl, (HB0.out.trans (hB2.mono (by omega))).alloc (by omega) _⟩

open Go.Proofs.YtkkbhlaakhkjnaaGreatDoor.doorz
set_option maxRecDepth 100000 in
theorem rowed : allRowed Tryz.prog Tryz.f7.params.toList = true := by kernel_rfl
set_option maxRecDepth 100000 in
theorem resT : Tryz.f7.resultTypes = #[4] := by kernel_rfl
set_option maxRecDepth 100000 in
theorem door_met (os : Os) (args : Array Value) : laidMetH Tryz.prog Rows.fnBytesRow.laid ((World.doorLaid Tryz.prog 400 os).forCall (fun _ _ => 0) ⟨#[], args, []⟩).memory := met os args

set_option maxRecDepth 100000 in
theorem lifted (os : Os) (started : os.Started) (H : Type) (enc : TypeId × Value → H) :
    ReturnsInHanded {} Tryz.checked os 7 .any (fun w args => (Rows.fnBytesSpec.pre enc Tryz.prog Tryz.f7 [] false w args ∧ laidMetH Tryz.prog Rows.fnBytesRow.laid w) ∧ sizedMet enc Tryz.prog Tryz.f7 (OpenSpec.ofChange Rows.fnBytesSpec) false w args)
      (Rows.fnBytesSpec.post enc Tryz.prog Tryz.f7 false true false false) := by
  refine returnsInHanded_of_change_and (C := Tryz.checked) (X := fun w _ => laidMetH Tryz.prog Rows.fnBytesRow.laid w) (fun _ _ _ hh h => h.of_heap hh) own started (by kernel_rfl) Tryz.func7
    (ChangeSpec.witness_shaped (enc := enc) (C := Tryz.checked) (os := os) (X := fun w _ => laidMetH Tryz.prog Rows.fnBytesRow.laid w) false (World.doorLaid Tryz.prog 400 os) #[.slice none 0 0] 8 rfl (shaped os _) (by kernel_rfl) (by kernel_rfl) (by kernel_rfl) (door_met os _)) ?_
  intro W base args ds gs before hval0 hW _ _ hL0 _
  have hval : ∀ (j : Nat) t v, Tryz.f7.params[j]? = some t → args[j]? = some v → Value.okWide Tryz.prog W .any base t v := hval0
  have hW' := hW
  obtain ⟨p, q, hA0, hV, rfl, hfz, hnd⟩ := hW
  have hA : DataW.TrodAll enc Tryz.prog W 0 (fun _ => true) true Tryz.f7.params.toList args.toList ds p := hA0
  rw [Tryz.params7] at hA hval
  have hL := hL0
  rw [MakeChecks.laidMetH_plain _ _ _ (by kernel_rfl)] at hL
  obtain ⟨b0, s0, hv0, _, _, _⟩ := laid_sentinel hL.tail.tail.tail g0 t0 Tryz.underlying151 rowE Tryz.underlying183 Tryz.underlying197 rfl rfl Tryz.underlying9 cellsE cellsS
  have hc0 : W.cell? ⟨1, 0, none⟩ = some (.iface 183 (.pointer (some b0))) := by simpa using World.var?_cell g0 hv0 0
  have hlt0 : 1 < W.heap.size := by
    rcases Nat.lt_or_ge 1 W.heap.size with h | h
    · exact h
    · simp [World.cell?, Array.getElem?_eq_none h] at hc0
  have hT : laidMet Tryz.prog (("internal/strconv.uint64pow10", Lib.tabData .u64 Lib.pow10Tab) :: [("loop.example/g00735/impl.errNotDigits", Rows.laid_loop_example_g00735_impl_errNotDigits)]) W := by rw [← datP]; exact hL.tail.tail
  have htab : Lib.TabIs Tryz.prog W "internal/strconv.uint64pow10" .u64 Lib.pow10Tab := Lib.tabIs_of_head (rest := _) gP tP Tryz.underlying179 Tryz.underlying136 cellsU cellsA hT
  obtain ⟨v0, vs0, d0, ds0, p0, q0, hargs, rfl, rfl, h0, r0⟩ := trodAll_cons hA
  obtain ⟨rfl, rfl, rfl⟩ := trodAll_nil r0
  obtain rfl : args = #[v0] := by cases args; simp_all
  obtain ⟨rfl, rfl⟩ := hV.unique (vars_read1 enc g0 t0 Tryz.underlying151 hv0 trivial _)
  obtain ⟨ao0, len0, cap0, rfl, w0⟩ := open_readable (hval 0 26 v0 rfl rfl) h0
  clear hA0 hval0
  refine (walk W _ hc0 htab _ ⟨_, _, _, rfl⟩ w0).mono fun e W' ⟨he, hg⟩ => ?_
  subst he
  exact ⟨_, rfl, post_true laidOut rowed hW' rfl resT Tryz.underlying4 hg (vars_read1 enc g0 t0 Tryz.underlying151 (var?_below hg g0 hlt0 hv0) trivial _)⟩

set_option maxRecDepth 100000 in
theorem over : Rows.fnBytesRow.holds Tryz.pinned (OpenSpec.ofChange Rows.fnBytesSpec) :=
  OpenClaim.holds_of_wide 7 Tryz.f7 rfl rfl rfl rfl rfl rfl rfl ⟨rfl, rfl, rfl, rfl, rfl⟩ rfl rfl rfl rfl rfl (by kernel_rfl) Tryz.func7 (by kernel_rfl)
    (of_decide_eq_true (by kernel_rfl)) (by unfold Func.isWrapper; first | (rw [if_pos (by decide +kernel)]; kernel_rfl) | (rw [if_neg (by decide +kernel)]; exact ⟨rfl, rfl⟩))
    (fun os started H enc _ => lifted os started H enc)

set_option maxRecDepth 100000 in
theorem said : Rows.FnBytesSaid :=
  over

set_option maxRecDepth 100000 in
theorem plain (f : FuncId) (fn : Func) (hf : Tryz.pinned.checked.prog.funcNamed "loop.example/g00735/laws.FnBytes" = some f) (hfn : Tryz.pinned.checked.prog.funcs[f]? = some fn) :
    Rows.fnBytesCard.stood.looks = Tryz.pinned.checked.prog.looks [] ∧ ∀ (j : Nat) t, fn.params[j]? = some t → Tryz.pinned.checked.prog.wantsStandIn t = false := by
  obtain rfl : f = 7 := Option.some.inj ((show Tryz.prog.funcNamed "loop.example/g00735/laws.FnBytes" = some 7 by kernel_rfl).symm.trans hf) |>.symm
  obtain rfl : fn = Tryz.f7 := (Option.some.inj (Tryz.func7.symm.trans hfn)).symm
  refine ⟨looks, fun j t ht => ?_⟩
  rw [Tryz.params7] at ht
  have hm : t ∈ [26] := by simpa using Array.mem_of_getElem? ht
  have hall : ([26].all fun u => !Tryz.prog.wantsStandIn u) = true := by kernel_rfl
  exact (show Tryz.prog.wantsStandIn t = false by simpa using List.all_eq_true.1 hall t hm)

set_option maxRecDepth 100000 in
theorem proved : Rows.FnBytesCardSaid :=
  Claim7.holds_tied_plain_at .later [] _ _ _ _ said (fun _ h => by cases h) (by kernel_rfl) (fun _ h => by cases h) fnBytes_row_tie rfl ⟨rfl, rfl⟩ mainIs rfl plain (by kernel_rfl)
#print axioms proved
end Go.Proofs.YtkkbhlaakhkjnaaGreatDoor.fnBytes
