/- RingRoll of the program; no conditions. -/
import Derived.Test.YteogdfiaobccfaaDoorWinO
import Derived.Test.YteogdfiaobccfaaDoorRingCI
set_option linter.unusedVariables false
namespace Go.Proofs.YteogdfiaobccfaaDoor
open Go.ChangeShapes Go.WideShapes Go.ChangeAt Go.RowKit

set_option maxRecDepth 100000 in
theorem shiftL_roll (k : Nat) (l : List Int) : shiftL k l = List.replicate (min k l.length) 0 ++ l.take (l.length - min k l.length) := by
  apply List.ext_getElem?
  intro i
  by_cases hi : i < l.length
  · rw [shiftL_at hi]
    by_cases hk : k ≤ i
    · rw [if_pos hk, List.getElem?_append_right (by rw [List.length_replicate]; omega), List.length_replicate, List.getElem?_take, if_pos (by omega), List.getD_eq_getElem?_getD, show i - min k l.length = i - k by omega, List.getElem?_eq_getElem (by omega : i - k < l.length)]; rfl
    · rw [if_neg hk, List.getElem?_append_left (by rw [List.length_replicate]; omega), List.getElem?_replicate, if_pos (by omega)]
  · rw [List.getElem?_eq_none (by rw [shiftL_len]; omega), List.getElem?_eq_none (by rw [List.length_append, List.length_replicate, List.length_take]; omega)]
set_option maxRecDepth 100000 in
theorem zip_fst {cs ss : List Int} (h : ss.length = cs.length) : (cs.zip ss).map Prod.fst = cs := List.map_fst_zip (by omega)
set_option maxRecDepth 100000 in
theorem zip_snd {cs ss : List Int} (h : ss.length = cs.length) : (cs.zip ss).map Prod.snd = ss := List.map_snd_zip (by omega)
set_option maxRecDepth 100000 in
theorem rollT_fst (k : Nat) (l : List TD) (hk : k ≤ l.length) : (rollT k l).map Prod.fst = List.replicate k 0 ++ (l.map Prod.fst).take ((l.map Prod.fst).length - k) := by
  unfold rollT
  rw [List.map_append, List.map_replicate, List.map_take, List.length_map]
set_option maxRecDepth 100000 in
theorem rollT_snd (k : Nat) (l : List TD) (hk : k ≤ l.length) : (rollT k l).map Prod.snd = List.replicate k 0 ++ (l.map Prod.snd).take ((l.map Prod.snd).length - k) := by
  unfold rollT
  rw [List.map_append, List.map_replicate, List.map_take, List.length_map]
set_option maxRecDepth 100000 in
/-- a window that rolls is a ring that rolls -/
theorem roll_win {r : RingD} {now : Int} (hok : ringOk r = true) (ht : timeB now = true) : ringRoll r now = (r.1, winHead r.1 r.2.1 now, (winRoll r.1 r.2.1 now (r.2.2.1.zip r.2.2.2)).map Prod.fst, (winRoll r.1 r.2.1 now (r.2.2.1.zip r.2.2.2)).map Prod.snd) := by
  obtain ⟨-, -, -, -, o5, -, -⟩ := ringOk_len hok
  obtain ⟨sp, hd, cs, ss⟩ := r
  simp only at o5 ⊢
  have hz : (cs.zip ss).length = cs.length := by rw [List.length_zip, o5, Nat.min_self]
  unfold ringRoll ringGo winHead winRoll
  rw [hok, ht]
  simp only [Bool.true_and, decide_eq_true_eq]
  split
  · rw [shiftL_roll, shiftL_roll, hz, rollT_fst _ _ (by rw [hz]; exact Nat.min_le_right _ _), rollT_snd _ _ (by rw [hz]; exact Nat.min_le_right _ _), zip_fst o5, zip_snd o5, o5]
  · rw [zip_fst o5, zip_snd o5]
set_option maxRecDepth 100000 in
theorem win_len {r : RingD} {now : Int} (hok : ringOk r = true) : (winRoll r.1 r.2.1 now (r.2.2.1.zip r.2.2.2)).length = r.2.2.1.length ∧ r.2.2.1.length ≤ 8 ∧ 1 ≤ r.2.2.1.length := by
  obtain ⟨-, -, o3, o4, o5, -, -⟩ := ringOk_len hok
  rw [winRoll_len, List.length_zip, o5, Nat.min_self]
  exact ⟨rfl, o4, o3⟩
set_option maxRecDepth 100000 in
theorem roll_not {r : RingD} {now : Int} (h : (ringOk r && timeB now) = false) : ringRoll r now = r := by
  unfold ringRoll ringGo
  rw [← Bool.and_assoc, h]
  rfl

set_option maxRecDepth 100000 in
set_option maxHeartbeats 4000000 in
theorem implRingRoll_any (hi : Nat) (vc vs : Value) (r : RingD) (now : Int) (w : World) (h1 : rd .i64 hi w vc r.2.2.1) (h2 : rd .i64 hi w vs r.2.2.2) (hh : hi ≤ w.heap.size) (hc : r.2.2.1.length ≤ 1048576) (hs : r.2.2.2.length ≤ 1048576) :
    Calls Tryd.prog 11 #[.agg #[.int .i64 r.1, .int .i64 r.2.1, vc, vs], .int .i64 now] w (ringOne (ringRoll r now) w) := by
  obtain ⟨A1, c1, rfl, -⟩ := h1.form
  obtain ⟨A2, c2, rfl, -⟩ := h2.form
  have HCP := Lib.hid (fun W (hW : Below w.heap.size w W) => implCopy_any hi _ _ r W (h1.below hW hh) (h2.below hW hh) (Nat.le_trans hh hW.size) hc hs)
  have HCR := Lib.hid (fun W (hW : Below w.heap.size w W) => implCanRoll_any hi _ _ r now W (h1.below hW hh) (h2.below hW hh) (Nat.le_trans hh hW.size) hc hs)
  have HWA := Lib.hid (fun hk ht W (hW : Below w.heap.size w W) => implWindow_any hi _ _ r now W (h1.below hW hh) (h2.below hW hh) (Nat.le_trans hh hW.size) hk ht)
  have HRW := Lib.hid (fun hk ht => roll_win (r := r) (now := now) hk ht)
  have HRN := Lib.hid (fun h => roll_not (r := r) (now := now) h)
  have HLN := Lib.hid (fun hk => win_len (r := r) (now := now) hk)
  clear h1 h2
  generalize ringOk r = ok at HCR HWA HRW HRN HLN
  generalize timeB now = tm at HCR HWA HRW HRN
  obtain ⟨sp, hd, uc, us⟩ := r
  simp only at hc hs HCP HCR HWA HRW HRN HLN ⊢
  go_enter Tryd.func11, Tryd.ntmps11
  go_upto_region 1 with fail
  obtain ⟨W, hW⟩ : ∃ W, W = (w.alloc (.cells #[.int .i64 sp, .int .i64 hd, .slice A1 uc.length c1, .slice A2 us.length c2] 27)).alloc (.cells #[.int .i64 0, .int .i64 0, .slice none 0 0, .slice none 0 0] 27) := ⟨_, rfl⟩
  have b0 : bk W w.heap.size 27 [.int .i64 sp, .int .i64 hd, .slice A1 uc.length c1, .slice A2 us.length c2] := by rw [hW]; exact (bk.new w _ _).alloc _
  have b1 : bk W (w.heap.size + 1) 27 [.int .i64 0, .int .i64 0, .slice none 0 0, .slice none 0 0] := by rw [hW]; simpa using bk.new (w.alloc _) _ _
  have HB0 : Hid (Below w.heap.size w W) := Lib.hid (by rw [hW]; exact ((Below.refl _ _).alloc (Nat.le_refl _) _).alloc (by simp) _)
  have z0 : w.heap.size + 2 ≤ W.heap.size := by rw [hW]; simp
  rw [← hW]
  clear hW
  obtain ⟨⟨p0, p1, p2, p3⟩, -⟩ := b0.cells
  go_wp2_with fail
  refine (HCR.out W HB0.out).mono ?_
  rintro e w0 ⟨rfl, hb0⟩
  have y0 := hb0.size
  have HBX : Hid (Below w.heap.size w w0) := Lib.hid (HB0.out.trans (hb0.mono (by omega)))
  replace b0 := b0.below hb0 (by omega)
  replace b1 := b1.below hb0 (by omega)
  clear hb0 HB0 p0 p1 p2 p3 HCR
  obtain ⟨⟨p0, p1, p2, p3⟩, -⟩ := b0.cells
  cases hg : (ok && tm)
  · have HRF := Lib.hid (HRN.out hg)
    clear HRN HRW HWA HLN hg b0
    go_wp2_with fail
    refine (HCP.out w0 HBX.out).mono ?_
    rintro e w1 ⟨vc', vs', rfl, hm1, hb1⟩
    clear p0 p1 p2 p3 HCP
    obtain ⟨vc2, vs2, hv, hnc, hns, hap⟩ := ring_mine hm1
    simp only [List.cons.injEq, and_true, true_and] at hv
    obtain ⟨rfl, rfl⟩ := hv
    obtain ⟨AU, cU, rfl, -⟩ := hnc.form
    obtain ⟨AV, cV, rfl, -⟩ := hns.form
    have z1 := hb1.size
    replace b1 := b1.below hb1 (by omega)
    have HB1 : Hid (Below w.heap.size w w1) := Lib.hid (HBX.out.trans (hb1.mono (by omega)))
    have HU := Lib.hid hnc
    have HV := Lib.hid hns
    have HAP := Lib.hid hap
    clear hm1 hb1 hnc hns hap
    obtain ⟨⟨r0, r1, r2, r3⟩, f0, f1, f2, f3⟩ := b1.cells
    clear b1
    go_wp2
    refine bodyPost_ret (v := .agg #[.int .i64 sp, .int .i64 hd, .slice AU uc.length cU, .slice AV us.length cV]) (by simp [results, Tryd.results11, go_sem, r0, r1, r2, r3]) rfl ?_
    rw [HRF.out]
    have ht := ((((Turned.refl (w.heap.size + 1) (w.heap.size + 2) w1).set (b := w.heap.size + 1) 0 (.int .i64 sp) (by omega) (by omega)).set (b := w.heap.size + 1) 1 (.int .i64 hd) (by omega) (by omega)).set (b := w.heap.size + 1) 2 (.slice AU uc.length cU) (by omega) (by omega)).set (b := w.heap.size + 1) 3 (.slice AV us.length cV) (by omega) (by omega)
    have hsz := ht.size
    exact ⟨_, _, rfl, ring_mine_of ((HU.out.turned ht (.inr (by omega)) (by omega)).mono (by omega) (by omega)) ((HV.out.turned ht (.inr (by omega)) (by omega)).mono (by omega) (by omega)) HAP.out, HB1.out.trans (ht.below (by omega) (by omega))⟩
  · simp only [Bool.and_eq_true] at hg
    obtain ⟨rfl, rfl⟩ := hg
    have HRF := Lib.hid (HRW.out (by trivial) (by trivial))
    obtain ⟨l1, l2, l3⟩ := HLN.out (by trivial)
    clear HRN HRW HLN HCP b0
    go_wp2_with fail
    refine (HWA.out (by trivial) (by trivial) w0 HBX.out).mono ?_
    rintro e w5 ⟨p, v, rfl, hwin, hb5⟩
    have z5 := hb5.size
    have HB5 : Hid (Below w.heap.size w w5) := Lib.hid (HBX.out.trans (hb5.mono (by omega)))
    replace b1 := b1.below hb5 (by omega)
    have HWI := Lib.hid hwin
    clear hb5 HBX hwin p0 p1 p2 p3 HWA
    generalize winHead sp hd now = hd2 at HWI HRF
    generalize winRoll sp hd now (uc.zip us) = wl at HWI HRF l1
    have HL1 : Hid (wl.length ≤ 8) := Lib.hid (by omega)
    clear l1
    go_wp2_with fail
    refine (implRingOf_any _ p sp hd2 v wl w5 HWI.out HL1.out).mono ?_
    rintro e w1 ⟨vc', vs', rfl, hm1, hb1⟩
    have HFX : Hid (wl.map Prod.fst = wl.map Prod.fst) := Lib.hid rfl
    simp only at hm1
    generalize wl.map Prod.fst = uc at HRF hm1
    generalize wl.map Prod.snd = us at HRF hm1
    obtain ⟨vc2, vs2, hv, hnc, hns, hap⟩ := ring_mine hm1
    simp only [List.cons.injEq, and_true, true_and] at hv
    obtain ⟨rfl, rfl⟩ := hv
    obtain ⟨AU, cU, rfl, -⟩ := hnc.form
    obtain ⟨AV, cV, rfl, -⟩ := hns.form
    have z1 := hb1.size
    replace b1 := b1.below hb1 (by omega)
    have HB1 : Hid (Below w.heap.size w w1) := Lib.hid (HB5.out.trans (hb1.mono (by omega)))
    have HU := Lib.hid hnc
    have HV := Lib.hid hns
    have HAP := Lib.hid hap
    clear hm1 hb1 hnc hns hap
    obtain ⟨⟨r0, r1, r2, r3⟩, f0, f1, f2, f3⟩ := b1.cells
    clear b1
    go_wp2
    refine bodyPost_ret (v := .agg #[.int .i64 sp, .int .i64 hd2, .slice AU uc.length cU, .slice AV us.length cV]) (by simp [results, Tryd.results11, go_sem, r0, r1, r2, r3]) rfl ?_
    rw [HRF.out]
    have ht := ((((Turned.refl (w.heap.size + 1) (w.heap.size + 2) w1).set (b := w.heap.size + 1) 0 (.int .i64 sp) (by omega) (by omega)).set (b := w.heap.size + 1) 1 (.int .i64 hd2) (by omega) (by omega)).set (b := w.heap.size + 1) 2 (.slice AU uc.length cU) (by omega) (by omega)).set (b := w.heap.size + 1) 3 (.slice AV us.length cV) (by omega) (by omega)
    have hsz := ht.size
    exact ⟨_, _, rfl, ring_mine_of ((HU.out.turned ht (.inr (by omega)) (by omega)).mono (by omega) (by omega)) ((HV.out.turned ht (.inr (by omega)) (by omega)).mono (by omega) (by omega)) HAP.out, HB1.out.trans (ht.below (by omega) (by omega))⟩
end Go.Proofs.YteogdfiaobccfaaDoor
