/- RingAdd of the program. The library's table of type handles holds what its text lays. -/
import Derived.Test.YteogdfiaobccfaaDoorRingRI
import Derived.Test.YteogdfiaobccfaaDoorTally
set_option linter.unusedVariables false
namespace Go.Proofs.YteogdfiaobccfaaDoor
open Go.ChangeShapes Go.WideShapes Go.ChangeAt Go.RowKit

set_option maxRecDepth 100000 in
theorem add_not {r : RingD} {now amount : Int} (h : (ringOk r && timeB now && isMon amount) = false) : ringAdd r now amount = r := by
  unfold ringAdd ringIn
  rw [← Bool.and_assoc, h]
  rfl
set_option maxRecDepth 100000 in
theorem add_win {r : RingD} {now amount : Int} (hok : ringOk r = true) (ht : timeB now = true) (hm : isMon amount = true) {t : TD} {l : List TD} (h : winRoll r.1 r.2.1 now (r.2.2.1.zip r.2.2.2) = t :: l) :
    ringAdd r now amount = (r.1, winHead r.1 r.2.1 now, ((satVal t.1 1, satVal t.2 amount) :: l).map Prod.fst, ((satVal t.1 1, satVal t.2 amount) :: l).map Prod.snd) := by
  unfold ringAdd ringIn
  rw [hok, ht, hm, roll_win hok ht, h]
  rfl
set_option maxRecDepth 100000 in
set_option maxHeartbeats 4000000 in
theorem implRingAdd_any (hi : Nat) (vc vs : Value) (r : RingD) (now amount : Int) (w : World) (hg : Handle w) (h1 : rd .i64 hi w vc r.2.2.1) (h2 : rd .i64 hi w vs r.2.2.2) (hh : hi ≤ w.heap.size) (hc : r.2.2.1.length ≤ 1048576) (hs : r.2.2.2.length ≤ 1048576) :
    Calls Tryd.prog 9 #[.agg #[.int .i64 r.1, .int .i64 r.2.1, vc, vs], .int .i64 now, .int .i64 amount] w (ringOne (ringAdd r now amount) w) := by
  have HG := Lib.hid hg
  obtain ⟨A1, c1, rfl, -⟩ := h1.form
  obtain ⟨A2, c2, rfl, -⟩ := h2.form
  have HCP := Lib.hid (fun W (hW : Below w.heap.size w W) => implCopy_any hi _ _ r W (h1.below hW hh) (h2.below hW hh) (Nat.le_trans hh hW.size) hc hs)
  have HCR := Lib.hid (fun W (hW : Below w.heap.size w W) => implCanRoll_any hi _ _ r now W (h1.below hW hh) (h2.below hW hh) (Nat.le_trans hh hW.size) hc hs)
  have HWA := Lib.hid (fun hk ht W (hW : Below w.heap.size w W) => implWindow_any hi _ _ r now W (h1.below hW hh) (h2.below hW hh) (Nat.le_trans hh hW.size) hk ht)
  have HMO := Lib.hid (fun W => implIsMon_any amount W)
  have HRW := Lib.hid (fun hk ht hm t l => add_win (r := r) (now := now) (amount := amount) hk ht hm (t := t) (l := l))
  have HRN := Lib.hid (fun h => add_not (r := r) (now := now) (amount := amount) h)
  have HLN := Lib.hid (fun hk => win_len (r := r) (now := now) hk)
  clear h1 h2 hg
  generalize ringOk r = ok at HCR HWA HRW HRN HLN
  generalize timeB now = tm at HCR HWA HRW HRN
  generalize isMon amount = mo at HMO HRW HRN
  obtain ⟨sp, hd, uc, us⟩ := r
  simp only at hc hs HCP HCR HWA HRW HRN HLN ⊢
  go_enter Tryd.func9, Tryd.ntmps9
  go_upto_region 1 with fail
  obtain ⟨W, hW⟩ : ∃ W, W = (w.alloc (.cells #[.int .i64 sp, .int .i64 hd, .slice A1 uc.length c1, .slice A2 us.length c2] 27)).alloc (.cells #[.int .i64 0, .int .i64 0, .slice none 0 0, .slice none 0 0] 27) := ⟨_, rfl⟩
  have b0 : bk W w.heap.size 27 [.int .i64 sp, .int .i64 hd, .slice A1 uc.length c1, .slice A2 us.length c2] := by rw [hW]; exact (bk.new w _ _).alloc _
  have b1 : bk W (w.heap.size + 1) 27 [.int .i64 0, .int .i64 0, .slice none 0 0, .slice none 0 0] := by rw [hW]; simpa using bk.new (w.alloc _) _ _
  have HB0 : Hid (Below w.heap.size w W) := Lib.hid (by rw [hW]; exact ((Below.refl _ _).alloc (Nat.le_refl _) _).alloc (by simp) _)
  have z0 : w.heap.size + 2 ≤ W.heap.size := by rw [hW]; simp
  rw [← hW]
  clear hW
  obtain ⟨⟨p0, p1, p2, p3⟩, -⟩ := b0.cells
  go_wp2_with fail
  refine (HCR.out W HB0.out).mono ?_
  rintro e w0 ⟨rfl, hb0⟩
  have y0 := hb0.size
  have HBX : Hid (Below w.heap.size w w0) := Lib.hid (HB0.out.trans (hb0.mono (by omega)))
  replace b0 := b0.below hb0 (by omega)
  replace b1 := b1.below hb0 (by omega)
  clear hb0 HB0 p0 p1 p2 p3 HCR
  obtain ⟨⟨p0, p1, p2, p3⟩, -⟩ := b0.cells
  cases hg : (ok && tm)
  · have HRF := Lib.hid (HRN.out (by rw [hg]; rfl))
    clear hg
    clear HRW HWA HLN b0 HRN
    go_wp2_with fail
    refine (HCP.out w0 HBX.out).mono ?_
    rintro e w1 ⟨vc', vs', rfl, hm1, hb1⟩
    clear p0 p1 p2 p3 HCP
    obtain ⟨vc2, vs2, hv, hnc, hns, hap⟩ := ring_mine hm1
    simp only [List.cons.injEq, and_true, true_and] at hv
    obtain ⟨rfl, rfl⟩ := hv
    obtain ⟨AU, cU, rfl, -⟩ := hnc.form
    obtain ⟨AV, cV, rfl, -⟩ := hns.form
    have z1 := hb1.size
    replace b1 := b1.below hb1 (by omega)
    have HB1 : Hid (Below w.heap.size w w1) := Lib.hid (HBX.out.trans (hb1.mono (by omega)))
    have HU := Lib.hid hnc
    have HV := Lib.hid hns
    have HAP := Lib.hid hap
    clear hm1 hb1 hnc hns hap
    obtain ⟨⟨r0, r1, r2, r3⟩, f0, f1, f2, f3⟩ := b1.cells
    clear b1
    go_wp2
    refine bodyPost_ret (v := .agg #[.int .i64 sp, .int .i64 hd, .slice AU uc.length cU, .slice AV us.length cV]) (by simp [results, Tryd.results9, go_sem, r0, r1, r2, r3]) rfl ?_
    rw [HRF.out]
    have ht := ((((Turned.refl (w.heap.size + 1) (w.heap.size + 2) w1).set (b := w.heap.size + 1) 0 (.int .i64 sp) (by omega) (by omega)).set (b := w.heap.size + 1) 1 (.int .i64 hd) (by omega) (by omega)).set (b := w.heap.size + 1) 2 (.slice AU uc.length cU) (by omega) (by omega)).set (b := w.heap.size + 1) 3 (.slice AV us.length cV) (by omega) (by omega)
    have hsz := ht.size
    exact ⟨_, _, rfl, ring_mine_of ((HU.out.turned ht (.inr (by omega)) (by omega)).mono (by omega) (by omega)) ((HV.out.turned ht (.inr (by omega)) (by omega)).mono (by omega) (by omega)) HAP.out, HB1.out.trans (ht.below (by omega) (by omega))⟩
  · simp only [Bool.and_eq_true] at hg
    obtain ⟨rfl, rfl⟩ := hg
    go_wp2_with fail
    refine (HMO.out _).mono ?_
    rintro e w9 ⟨rfl, rfl⟩
    cases mo
    · have HRF := Lib.hid (HRN.out (by trivial))
      clear HRW HWA HLN b0 HRN
      go_wp2_with fail
      refine (HCP.out w0 HBX.out).mono ?_
      rintro e w1 ⟨vc', vs', rfl, hm1, hb1⟩
      clear p0 p1 p2 p3 HCP
      obtain ⟨vc2, vs2, hv, hnc, hns, hap⟩ := ring_mine hm1
      simp only [List.cons.injEq, and_true, true_and] at hv
      obtain ⟨rfl, rfl⟩ := hv
      obtain ⟨AU, cU, rfl, -⟩ := hnc.form
      obtain ⟨AV, cV, rfl, -⟩ := hns.form
      have z1 := hb1.size
      replace b1 := b1.below hb1 (by omega)
      have HB1 : Hid (Below w.heap.size w w1) := Lib.hid (HBX.out.trans (hb1.mono (by omega)))
      have HU := Lib.hid hnc
      have HV := Lib.hid hns
      have HAP := Lib.hid hap
      clear hm1 hb1 hnc hns hap
      obtain ⟨⟨r0, r1, r2, r3⟩, f0, f1, f2, f3⟩ := b1.cells
      clear b1
      go_wp2
      refine bodyPost_ret (v := .agg #[.int .i64 sp, .int .i64 hd, .slice AU uc.length cU, .slice AV us.length cV]) (by simp [results, Tryd.results9, go_sem, r0, r1, r2, r3]) rfl ?_
      rw [HRF.out]
      have ht := ((((Turned.refl (w.heap.size + 1) (w.heap.size + 2) w1).set (b := w.heap.size + 1) 0 (.int .i64 sp) (by omega) (by omega)).set (b := w.heap.size + 1) 1 (.int .i64 hd) (by omega) (by omega)).set (b := w.heap.size + 1) 2 (.slice AU uc.length cU) (by omega) (by omega)).set (b := w.heap.size + 1) 3 (.slice AV us.length cV) (by omega) (by omega)
      have hsz := ht.size
      exact ⟨_, _, rfl, ring_mine_of ((HU.out.turned ht (.inr (by omega)) (by omega)).mono (by omega) (by omega)) ((HV.out.turned ht (.inr (by omega)) (by omega)).mono (by omega) (by omega)) HAP.out, HB1.out.trans (ht.below (by omega) (by omega))⟩
    have HRF := Lib.hid (HRW.out (by trivial) (by trivial) (by trivial))
    obtain ⟨l1, l2, l3⟩ := HLN.out (by trivial)
    clear HRN HRW HLN HCP b0
    go_wp2_with fail
    refine (HWA.out (by trivial) (by trivial) w0 HBX.out).mono ?_
    rintro e w5 ⟨p, v, rfl, hwin, hb5⟩
    have z5 := hb5.size
    have HB5 : Hid (Below w.heap.size w w5) := Lib.hid (HBX.out.trans (hb5.mono (by omega)))
    replace b1 := b1.below hb5 (by omega)
    have HG5 := Lib.hid (HG.out.below HB5.out (Nat.le_refl _))
    clear hb5 HBX p0 p1 p2 p3 HWA
    generalize winHead sp hd now = hd2 at hwin HRF
    generalize winRoll sp hd now (uc.zip us) = wl at hwin HRF l1
    cases wl with
    | nil => exact absurd l1 (by simp; omega)
    | cons t tl =>
    have HRF := Lib.hid (HRF.out t tl rfl)
    have HL1 : Hid ((t :: tl).length ≤ 8) := Lib.hid (by omega)
    clear l1
    obtain ⟨A, c, rfl, -⟩ := hwin.row.form
    obtain ⟨g, rfl, hBg, hgl⟩ : ∃ g, A = some ⟨g, 0, none⟩ ∧ w0.heap.size ≤ g ∧ g < w5.heap.size := by
      rcases hwin.row.2 with ⟨h', h0⟩ | ⟨g, cap, cur, h', hB, hg, -⟩
      · simp at h0
      · simp only [Value.slice.injEq] at h'
        exact ⟨g, h'.1, hB, (Array.getElem?_eq_some_iff.1 hg).1⟩
    have hpg : p ≠ g := fun e => hwin.far (by rw [e]; rfl)
    have HWI := Lib.hid hwin
    have HPL := Lib.hid hwin.low
    have b1' := Lib.hid b1
    clear hwin b1
    go_wp2_with fail
    refine (implNewest_any _ p g c sp hd2 (t :: tl) w5 HWI.out (by simp)).mono ?_
    rintro e w7 ⟨rfl, rfl⟩
    obtain ⟨CS, hCS, hC0, hC1, hnew⟩ := HWI.out.row.first
    have HCS := Lib.hid hCS
    have HC0 := Lib.hid hC0
    have HC1 := Lib.hid hC1
    have HNW := Lib.hid hnew
    clear hCS hC0 hC1 hnew
    go_wp2_with fail
    refine (implTally_any g _ CS t.1 t.2 1 amount w5 HCS.out HC0.out HC1.out HG5.out).mono ?_
    rintro e w6 ⟨rfl, ht6, hk6⟩
    have z6 := ht6.size
    have HWN : Hid (Win w0.heap.size w6 p sp hd2 (.slice (some ⟨g, 0, none⟩) (t :: tl).length c) ((satVal t.1 1, satVal t.2 amount) :: tl)) := Lib.hid ⟨HWI.out.at_.turned ht6 (by omega), HNW.out w6 _ _ hk6, HPL.out, by simpa [Value.ownBlock] using Ne.symm hpg⟩
    have HB6 : Hid (Below w.heap.size w w6) := Lib.hid (HB5.out.trans (ht6.below (by omega) (by omega)))
    have b1 := b1'.out.turned ht6 (by omega)
    clear ht6 hk6 HNW HC0 HC1 HCS HWI HG5 HB5 b1'
    go_wp2_with fail
    refine (implRingOf_any _ p sp hd2 _ _ w6 HWN.out HL1.out).mono ?_
    rintro e w1 ⟨vc', vs', rfl, hm1, hb1⟩
    simp only at hm1
    generalize ((satVal t.1 1, satVal t.2 amount) :: tl).map Prod.fst = uc at HRF hm1
    generalize ((satVal t.1 1, satVal t.2 amount) :: tl).map Prod.snd = us at HRF hm1
    obtain ⟨vc2, vs2, hv, hnc, hns, hap⟩ := ring_mine hm1
    simp only [List.cons.injEq, and_true, true_and] at hv
    obtain ⟨rfl, rfl⟩ := hv
    obtain ⟨AU, cU, rfl, -⟩ := hnc.form
    obtain ⟨AV, cV, rfl, -⟩ := hns.form
    have z1 := hb1.size
    replace b1 := b1.below hb1 (by omega)
    have HB1 : Hid (Below w.heap.size w w1) := Lib.hid (HB6.out.trans (hb1.mono (by omega)))
    have HU := Lib.hid hnc
    have HV := Lib.hid hns
    have HAP := Lib.hid hap
    clear hm1 hb1 hnc hns hap
    obtain ⟨⟨r0, r1, r2, r3⟩, f0, f1, f2, f3⟩ := b1.cells
    clear b1
    go_wp2
    refine bodyPost_ret (v := .agg #[.int .i64 sp, .int .i64 hd2, .slice AU uc.length cU, .slice AV us.length cV]) (by simp [results, Tryd.results9, go_sem, r0, r1, r2, r3]) rfl ?_
    rw [HRF.out]
    have ht := ((((Turned.refl (w.heap.size + 1) (w.heap.size + 2) w1).set (b := w.heap.size + 1) 0 (.int .i64 sp) (by omega) (by omega)).set (b := w.heap.size + 1) 1 (.int .i64 hd2) (by omega) (by omega)).set (b := w.heap.size + 1) 2 (.slice AU uc.length cU) (by omega) (by omega)).set (b := w.heap.size + 1) 3 (.slice AV us.length cV) (by omega) (by omega)
    have hsz := ht.size
    exact ⟨_, _, rfl, ring_mine_of ((HU.out.turned ht (.inr (by omega)) (by omega)).mono (by omega) (by omega)) ((HV.out.turned ht (.inr (by omega)) (by omega)).mono (by omega) (by omega)) HAP.out, HB1.out.trans (ht.below (by omega) (by omega))⟩
end Go.Proofs.YteogdfiaobccfaaDoor
