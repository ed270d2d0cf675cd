/- RingAdd of the reference; no conditions. -/
import Derived.Test.YtkbakcnhhlmpkaaDoorRingRl
import Derived.Test.YtkbakcnhhlmpkaaDoorSat
import Derived.StillTailTactics
import Derived.Deep.DeepCutAuto
set_option linter.unusedVariables false
namespace Go.Proofs.YtkbakcnhhlmpkaaDoor
open Go.ChangeShapes Go.WideShapes Go.ChangeAt Go.RowKit

set_option maxRecDepth 100000 in
theorem specSat_still (a b : Int) (w : World) : Calls Tryd.prog 24 #[.int .i64 a, .int .i64 b] w fun e w' => e = .returned (.int .i64 (satVal a b)) ∧ w' = w :=
  (specSat_any a b w).mono fun _ _ h => ⟨h.1, h.2.symm⟩
set_option maxRecDepth 100000 in
set_option maxHeartbeats 6400000 in
theorem specRingAdd_any (hi : Nat) (vc vs : Value) (r : RingD) (now amount : Int) (w : World) (h1 : rd .i64 hi w vc r.2.2.1) (h2 : rd .i64 hi w vs r.2.2.2) (hh : hi ≤ w.heap.size) (hc : r.2.2.1.length ≤ 1048576) (hs : r.2.2.2.length ≤ 1048576) :
    Calls Tryd.prog 38 #[.agg #[.int .i64 r.1, .int .i64 r.2.1, vc, vs], .int .i64 now, .int .i64 amount] w (ringOne (ringAdd r now amount) w) := by
  obtain ⟨A1, c1, rfl, -⟩ := h1.form
  obtain ⟨A2, c2, rfl, -⟩ := h2.form
  have HCP := Lib.hid (fun W (hW : Below w.heap.size w W) => specCopy_any hi _ _ r W (h1.below hW hh) (h2.below hW hh) (Nat.le_trans hh hW.size) hc hs)
  have HOK := Lib.hid (fun W (hW : Below w.heap.size w W) => specRingOk_any hi _ _ r W (h1.below hW hh) (h2.below hW hh) (Nat.le_trans hh hW.size) hc hs)
  have HRO := Lib.hid (fun W (hW : Below w.heap.size w W) => specRingRoll_any hi _ _ r now W (h1.below hW hh) (h2.below hW hh) (Nat.le_trans hh hW.size) hc hs)
  have HTM := Lib.hid (fun W => specTime_any now W)
  have HMO := Lib.hid (fun W => l01Money_any amount W)
  clear h1 h2
  have HLEN := Lib.hid (fun h => ringOk_len (r := r) h)
  have HLC := Lib.hid (ringRoll_lc r now)
  have HLS := Lib.hid (ringRoll_ls r now)
  have HRA : Hid (ringAdd r now amount = if (ringOk r && (timeB now && isMon amount)) = true then ((ringRoll r now).1, (ringRoll r now).2.1, addOne (ringRoll r now).2.2.1 1, addOne (ringRoll r now).2.2.2 amount) else r) := Lib.hid rfl
  generalize ringOk r = ok at HOK HLEN HRA
  generalize timeB now = tm at HTM HRA
  generalize isMon amount = mo at HMO HRA
  generalize ringRoll r now = q at HRO HRA HLC HLS
  obtain ⟨sp, hd, cs, ss⟩ := r
  obtain ⟨qs, qh, qc, qu⟩ := q
  simp only at hc hs HCP HOK HRO HLEN HLC HLS HRA ⊢
  go_enter Tryd.func38, Tryd.ntmps38
  go_upto_region 1 with fail
  obtain ⟨W, hW⟩ : ∃ W, W = (w.alloc (.cells #[.int .i64 sp, .int .i64 hd, .slice A1 cs.length c1, .slice A2 ss.length c2] 26)).alloc (.cells #[.int .i64 0, .int .i64 0, .slice none 0 0, .slice none 0 0] 26) := ⟨_, rfl⟩
  have b0 : bk W w.heap.size 26 [.int .i64 sp, .int .i64 hd, .slice A1 cs.length c1, .slice A2 ss.length c2] := by rw [hW]; exact (bk.new w _ _).alloc _
  have b1 : bk W (w.heap.size + 1) 26 [.int .i64 0, .int .i64 0, .slice none 0 0, .slice none 0 0] := by rw [hW]; simpa using bk.new (w.alloc _) _ _
  have HB0 : Hid (Below w.heap.size w W) := Lib.hid (by rw [hW]; exact ((Below.refl _ _).alloc (Nat.le_refl _) _).alloc (by simp) _)
  have z0 : w.heap.size + 2 ≤ W.heap.size := by rw [hW]; simp
  rw [← hW]
  clear hW
  obtain ⟨⟨p0, p1, p2, p3⟩, -⟩ := b0.cells
  have B0 := Lib.hid b0
  have B1 := Lib.hid b1
  clear b0 b1
  go_cut [20] (fun cv wx => cv = .bool (!(ok && (tm && mo))) ∧ Below W.heap.size W wx)
  case first =>
    clear HLEN HLC HLS HRA HRO HCP
    cases ok
    · go_wp2_with fail
      refine (HOK.out W HB0.out).mono ?_
      rintro e w4 ⟨rfl, hb4⟩
      go_wp2
      go_meet
      exact ⟨rfl, hb4⟩
    cases tm
    · go_wp2_with fail
      refine (HOK.out W HB0.out).mono ?_
      rintro e w4 ⟨rfl, hb4⟩
      go_wp2_with fail
      refine (HTM.out _).mono ?_
      rintro e w5 ⟨rfl, rfl⟩
      go_wp2
      go_meet
      exact ⟨rfl, hb4⟩
    go_wp2_with fail
    refine (HOK.out W HB0.out).mono ?_
    rintro e w4 ⟨rfl, hb4⟩
    go_wp2_with fail
    refine (HTM.out _).mono ?_
    rintro e w5 ⟨rfl, rfl⟩
    go_wp2_with fail
    refine (HMO.out _).mono ?_
    rintro e w5 ⟨rfl, rfl⟩
    go_wp2
    go_meet
    exact ⟨rfl, hb4⟩
  case rest =>
    obtain ⟨rfl, hbc⟩ := hcut
    have b0 := B0.out.below hbc (by omega)
    have b1 := B1.out.below hbc (by omega)
    have zx := hbc.size
    have HBX : Hid (Below w.heap.size w wc) := Lib.hid (HB0.out.trans (hbc.mono (by omega)))
    clear hbc HB0 B0 B1 p0 p1 p2 p3 HOK HTM HMO
    obtain ⟨⟨p0, p1, p2, p3⟩, -⟩ := b0.cells
    cases hg : (ok && (tm && mo))
    · have HRF : Hid (ringAdd (sp, hd, cs, ss) now amount = (sp, hd, cs, ss)) := Lib.hid (by rw [HRA.out, hg]; rfl)
      clear HRA HRO HLC HLS hg HLEN b0
      go_wp2_with fail
      refine (HCP.out wc HBX.out).mono ?_
      rintro e w1 ⟨vc', vs', rfl, hm1, hb1⟩
      obtain ⟨uc, us, hv, hnc, hns, hap⟩ := ring_mine hm1
      simp only [List.cons.injEq, and_true, true_and] at hv
      obtain ⟨rfl, rfl⟩ := hv
      obtain ⟨AU, cU, rfl, -⟩ := hnc.form
      obtain ⟨AV, cV, rfl, -⟩ := hns.form
      have z1 := hb1.size
      replace b1 := b1.below hb1 (by omega)
      have HB1 : Hid (Below w.heap.size w w1) := Lib.hid (HBX.out.trans (hb1.mono (by omega)))
      have HU := Lib.hid hnc
      have HV := Lib.hid hns
      have HAP := Lib.hid hap
      clear hm1 hb1 hnc hns hap p0 p1 p2 p3
      obtain ⟨⟨r0, r1, r2, r3⟩, f0, f1, f2, f3⟩ := b1.cells
      clear b1
      go_wp2
      refine bodyPost_ret (v := .agg #[.int .i64 sp, .int .i64 hd, .slice AU cs.length cU, .slice AV ss.length cV]) (by simp [results, Tryd.results38, go_sem, r0, r1, r2, r3]) rfl ?_
      rw [HRF.out]
      have ht := ((((Turned.refl w.heap.size (w.heap.size + 2) w1).set (b := w.heap.size + 1) 0 (.int .i64 sp) (by omega) (by omega)).set (b := w.heap.size + 1) 1 (.int .i64 hd) (by omega) (by omega)).set (b := w.heap.size + 1) 2 (.slice AU cs.length cU) (by omega) (by omega)).set (b := w.heap.size + 1) 3 (.slice AV ss.length cV) (by omega) (by omega)
      have hsz := ht.size
      exact ⟨_, _, rfl, ring_mine_of ((HU.out.turned ht (.inr (by omega)) (by omega)).mono (by omega) (by omega)) ((HV.out.turned ht (.inr (by omega)) (by omega)).mono (by omega) (by omega)) HAP.out, HB1.out.trans (ht.below (Nat.le_refl _) (by omega))⟩
    · simp only [Bool.and_eq_true] at hg
      obtain ⟨rfl, rfl, rfl⟩ := hg
      obtain ⟨o1, o2, o3, o4, o5, o6, o7⟩ := HLEN.out rfl
      have o8 : 1 ≤ qc.length := by rw [HLC.out]; exact o3
      have o9 : 1 ≤ qu.length := by rw [HLS.out, o5]; exact o3
      have HRT : Hid (ringAdd (sp, hd, cs, ss) now amount = (qs, qh, addOne qc 1, addOne qu amount)) := Lib.hid (by rw [HRA.out]; rfl)
      clear HRA HLC HLS HLEN o5 HCP
      go_wp2_with fail
      refine (HRO.out wc HBX.out).mono ?_
      rintro e w1 ⟨vc', vs', rfl, hm1, hb1⟩
      obtain ⟨uc, us, hv, hnc, hns, hap⟩ := ring_mine hm1
      simp only [List.cons.injEq, and_true, true_and] at hv
      obtain ⟨rfl, rfl⟩ := hv
      obtain ⟨AU, cU, rfl, -⟩ := hnc.form
      obtain ⟨AV, cV, rfl, -⟩ := hns.form
      have z1 := hb1.size
      replace b1 := b1.below hb1 (by omega)
      have HB1 : Hid (Below w.heap.size w w1) := Lib.hid (HBX.out.trans (hb1.mono (by omega)))
      have HU := Lib.hid hnc
      have HV := Lib.hid hns
      have HAP := Lib.hid hap
      clear hm1 hb1 hnc hns hap p0 p1 p2 p3 b0 HBX HRO
      have hUl := HU.out.own_at (j := 0) o8
      obtain ⟨bu, ou, rfl, u1, u2, -, -, u3⟩ := hUl
      have hVl := HV.out.own_at (j := 0) o9
      obtain ⟨bv, ov, rfl, v1, v2, -, -, v3⟩ := hVl
      have HUV : Hid (bu ≠ bv) := Lib.hid fun e => HAP.out bu u3 (by rw [e]; exact v3)
      have HBU := Lib.hid u3
      have HBV := Lib.hid v3
      clear u3 v3
      go_upto_region 4 with fail
      obtain ⟨W2, hW2⟩ : ∃ W2, W2 = w1.alloc (.cells #[.int .i64 qs, .int .i64 qh, .slice (some ⟨bu, ou, none⟩) qc.length cU, .slice (some ⟨bv, ov, none⟩) qu.length cV] 26) := ⟨_, rfl⟩
      have b2 := bk.new w1 26 [.int .i64 qs, .int .i64 qh, .slice (some ⟨bu, ou, none⟩) qc.length cU, .slice (some ⟨bv, ov, none⟩) qu.length cV]
      have hb2 := (Below.refl w1.heap.size w1).alloc (Nat.le_refl _) (.cells #[.int .i64 qs, .int .i64 qh, .slice (some ⟨bu, ou, none⟩) qc.length cU, .slice (some ⟨bv, ov, none⟩) qu.length cV] 26)
      rw [show ([Value.int .i64 qs, .int .i64 qh, .slice (some ⟨bu, ou, none⟩) qc.length cU, .slice (some ⟨bv, ov, none⟩) qu.length cV] : List Value).toArray = #[.int .i64 qs, .int .i64 qh, .slice (some ⟨bu, ou, none⟩) qc.length cU, .slice (some ⟨bv, ov, none⟩) qu.length cV] from rfl] at b2
      rw [← hW2] at b2 hb2 ⊢
      clear hW2
      have z2 := b2.lt
      replace b1 := b1.below hb2 (by omega)
      have HB2 : Hid (Below w.heap.size w W2) := Lib.hid (HB1.out.trans (hb2.mono (by omega)))
      have HU := Lib.hid (HU.out.below hb2 (Nat.le_refl _))
      have HV := Lib.hid (HV.out.below hb2 (Nat.le_refl _))
      clear hb2 HB1
      obtain ⟨⟨p0, p1, p2, p3⟩, -⟩ := b2.cells
      have cf := HU.out.cell_at (j := 0) o8
      obtain ⟨x, hx⟩ : ∃ x, x = qc.getD 0 0 := ⟨_, rfl⟩
      rw [Nat.add_zero, ← hx] at cf
      have HX : Hid (addOne qc 1 = qc.set 0 (satVal x 1)) := Lib.hid (by rw [hx]; rfl)
      clear hx
      obtain ⟨cu, fu⟩ := cf
      have i0 : 0 < qc.length := by omega
      have y1 : bu ≠ w.heap.size + 1 := by omega
      have y2 : bu ≠ w1.heap.size := by omega
      have x1 : bv ≠ w.heap.size + 1 := by omega
      have x2 : bv ≠ w1.heap.size := by omega
      have BB1 := Lib.hid b1
      have BB2 := Lib.hid b2
      clear b1 b2
      refine wp_region_still_tail 8 (by kernel_rfl) (by kernel_rfl) ?_
      simp only [List.take_succ_cons, List.take_zero, List.drop_succ_cons, List.drop_zero]
      repeat still_step
      still_call (specSat_still _ _ _)
      repeat still_step
      refine wpStill_nil ?_
      change wpList _ _ _ _ _ W2.drew
      go_upto_region 5 with fail
      obtain ⟨W3, hW3⟩ : ∃ W3, W3 = (W2.setCell ⟨bu, ou, none⟩ (.int .i64 (satVal x 1))).drew := ⟨_, rfl⟩
      have BB1 := Lib.hid ((BB1.out.far (p := ⟨bu, ou, none⟩) (Ne.symm y1) (.int .i64 (satVal x 1))).drew)
      have BB2 := Lib.hid ((BB2.out.far (p := ⟨bu, ou, none⟩) (Ne.symm y2) (.int .i64 (satVal x 1))).drew)
      have hu2 := HU.out.set (j := 0) o8 (satVal x 1)
      rw [Nat.add_zero] at hu2
      have HU := Lib.hid (hu2.below (Below.refl w1.heap.size _).drew (Nat.le_refl _))
      have HV := Lib.hid ((HV.out.far (g := bu) (o := ou) (.int .i64 (satVal x 1)) (by rw [HBV.out]; exact fun e => HUV.out (Option.some.inj e).symm)).below (Below.refl w1.heap.size _).drew (Nat.le_refl _))
      have HB3 := Lib.hid ((HB2.out.setCell (p := ⟨bu, ou, none⟩) (show w.heap.size ≤ bu by omega) (.int .i64 (satVal x 1))).drew)
      have z3 : W2.heap.size ≤ ((W2.setCell ⟨bu, ou, none⟩ (.int .i64 (satVal x 1))).drew).heap.size := by show _ ≤ (W2.setCell _ _).heap.size; simp
      rw [← hW3] at BB1 BB2 HU HV HB3 z3 ⊢
      clear hW3 p0 p1 p2 p3 cu fu hu2 HB2
      obtain ⟨⟨p0, p1, p2, p3⟩, -⟩ := BB2.out.cells
      have cf := HV.out.cell_at (j := 0) o9
      obtain ⟨y, hy⟩ : ∃ y, y = qu.getD 0 0 := ⟨_, rfl⟩
      rw [Nat.add_zero, ← hy] at cf
      have HY : Hid (addOne qu amount = qu.set 0 (satVal y amount)) := Lib.hid (by rw [hy]; rfl)
      clear hy
      obtain ⟨cv, fv⟩ := cf
      have i1 : 0 < qu.length := by omega
      refine wp_region_still_tail 9 (by kernel_rfl) (by kernel_rfl) ?_
      simp only [List.take_succ_cons, List.take_zero, List.drop_succ_cons, List.drop_zero]
      repeat still_step
      still_call (specSat_still _ _ _)
      repeat still_step
      refine wpStill_nil ?_
      change wpList _ _ _ _ _ W3.drew
      go_upto_region 6 with fail
      obtain ⟨W4, hW4⟩ : ∃ W4, W4 = (W3.setCell ⟨bv, ov, none⟩ (.int .i64 (satVal y amount))).drew := ⟨_, rfl⟩
      have BB1 := Lib.hid ((BB1.out.far (p := ⟨bv, ov, none⟩) (Ne.symm x1) (.int .i64 (satVal y amount))).drew)
      have BB2 := Lib.hid ((BB2.out.far (p := ⟨bv, ov, none⟩) (Ne.symm x2) (.int .i64 (satVal y amount))).drew)
      have hv2 := HV.out.set (j := 0) o9 (satVal y amount)
      rw [Nat.add_zero] at hv2
      have HV := Lib.hid (hv2.below (Below.refl w1.heap.size _).drew (Nat.le_refl _))
      have HU := Lib.hid ((HU.out.far (g := bv) (o := ov) (.int .i64 (satVal y amount)) (by rw [HBU.out]; exact fun e => HUV.out (Option.some.inj e))).below (Below.refl w1.heap.size _).drew (Nat.le_refl _))
      have HB4 := Lib.hid ((HB3.out.setCell (p := ⟨bv, ov, none⟩) (show w.heap.size ≤ bv by omega) (.int .i64 (satVal y amount))).drew)
      have z4 : W3.heap.size ≤ ((W3.setCell ⟨bv, ov, none⟩ (.int .i64 (satVal y amount))).drew).heap.size := by show _ ≤ (W3.setCell _ _).heap.size; simp
      rw [← hW4] at BB1 BB2 HU HV HB4 z4 ⊢
      clear hW4 p0 p1 p2 p3 cv fv hv2 HB3
      obtain ⟨⟨p0, p1, p2, p3⟩, -⟩ := BB2.out.cells
      obtain ⟨⟨r0, r1, r2, r3⟩, f0, f1, f2, f3⟩ := BB1.out.cells
      go_wp2
      refine bodyPost_ret (v := .agg #[.int .i64 qs, .int .i64 qh, .slice (some ⟨bu, ou, none⟩) qc.length cU, .slice (some ⟨bv, ov, none⟩) qu.length cV]) (by simp [results, Tryd.results38, go_sem, r0, r1, r2, r3]) rfl ?_
      rw [HRT.out]
      have ht := ((((Turned.refl w.heap.size (w.heap.size + 2) W4).set (b := w.heap.size + 1) 0 (.int .i64 qs) (by omega) (by omega)).set (b := w.heap.size + 1) 1 (.int .i64 qh) (by omega) (by omega)).set (b := w.heap.size + 1) 2 (.slice (some ⟨bu, ou, none⟩) qc.length cU) (by omega) (by omega)).set (b := w.heap.size + 1) 3 (.slice (some ⟨bv, ov, none⟩) qu.length cV) (by omega) (by omega)
      have hsz := ht.size
      rw [HX.out, HY.out]
      exact ⟨_, _, rfl, ring_mine_of ((HU.out.turned ht (.inr (by omega)) (by omega)).mono (by omega) (by omega)) ((HV.out.turned ht (.inr (by omega)) (by omega)).mono (by omega) (by omega)) HAP.out, HB4.out.trans (ht.below (Nat.le_refl _) (by omega))⟩
end Go.Proofs.YtkbakcnhhlmpkaaDoor
