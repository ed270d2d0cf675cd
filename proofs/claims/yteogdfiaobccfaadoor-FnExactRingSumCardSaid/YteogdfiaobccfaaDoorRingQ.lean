/- RingCount and RingSum of the reference; no conditions. -/
import Derived.Test.YteogdfiaobccfaaDoorRingRl
import Derived.Test.YteogdfiaobccfaaDoorSat
import Derived.Deep.DeepCutAuto
set_option linter.unusedVariables false
namespace Go.Proofs.YteogdfiaobccfaaDoor
open Go.ChangeShapes Go.WideShapes Go.ChangeAt Go.RowKit

set_option maxRecDepth 100000 in
set_option maxHeartbeats 6400000 in
theorem specTotal_any (hi : Nat) (vc vs : Value) (r : RingD) (now : Int) (sums : Bool) (w : World) (h1 : rd .i64 hi w vc r.2.2.1) (h2 : rd .i64 hi w vs r.2.2.2) (hh : hi ≤ w.heap.size) (hc : r.2.2.1.length ≤ 1048576) (hs : r.2.2.2.length ≤ 1048576) :
    Calls Tryd.prog 48 #[.agg #[.int .i64 r.1, .int .i64 r.2.1, vc, vs], .int .i64 now, .bool sums] w fun e w' => e = .returned (.int .i64 (ringTotal r now sums)) ∧ Below w.heap.size w w' := by
  obtain ⟨A1, c1, rfl, -⟩ := h1.form
  obtain ⟨A2, c2, rfl, -⟩ := h2.form
  have HOK := Lib.hid (fun W (hW : Below w.heap.size w W) => specRingOk_any hi _ _ r W (h1.below hW hh) (h2.below hW hh) (Nat.le_trans hh hW.size) hc hs)
  have HRO := Lib.hid (fun W (hW : Below w.heap.size w W) => specRingRoll_any hi _ _ r now W (h1.below hW hh) (h2.below hW hh) (Nat.le_trans hh hW.size) hc hs)
  have HTM := Lib.hid (fun W => specTime_any now W)
  clear h1 h2
  have HLEN := Lib.hid (fun h => ringOk_len (r := r) h)
  have HLC := Lib.hid (ringRoll_lc r now)
  have HLS := Lib.hid (ringRoll_ls r now)
  have HRA : Hid (ringTotal r now sums = if (ringOk r && timeB now) = true then totalL (if sums = true then (ringRoll r now).2.2.2 else (ringRoll r now).2.2.1) else 0) := Lib.hid rfl
  generalize ringOk r = ok at HOK HLEN HRA
  generalize timeB now = tm at HTM HRA
  generalize ringRoll r now = q at HRO HRA HLC HLS
  obtain ⟨sp, hd, cs, ss⟩ := r
  obtain ⟨qs, qh, qc, qu⟩ := q
  simp only at hc hs HOK HRO HLEN HLC HLS HRA ⊢
  go_enter Tryd.func48, Tryd.ntmps48
  go_upto_region 1 with fail
  obtain ⟨W, hW⟩ : ∃ W, W = (w.alloc (.cells #[.int .i64 sp, .int .i64 hd, .slice A1 cs.length c1, .slice A2 ss.length c2] 27)) := ⟨_, rfl⟩
  have b0 : bk W w.heap.size 27 [.int .i64 sp, .int .i64 hd, .slice A1 cs.length c1, .slice A2 ss.length c2] := by rw [hW]; exact (bk.new w _ _)
  have HB0 : Hid (Below w.heap.size w W) := Lib.hid (by rw [hW]; exact ((Below.refl _ _).alloc (Nat.le_refl _) _))
  have z0 : w.heap.size + 1 ≤ W.heap.size := by rw [hW]; simp
  rw [← hW]
  clear hW
  obtain ⟨⟨p0, p1, p2, p3⟩, -⟩ := b0.cells
  have B0 := Lib.hid b0
  clear b0
  go_cut [17] (fun cv wx => cv = .bool (!(ok && tm)) ∧ Below W.heap.size W wx)
  case first =>
    clear HLEN HLC HLS HRA HRO
    cases ok
    · go_wp2_with fail
      refine (HOK.out W HB0.out).mono ?_
      rintro e w4 ⟨rfl, hb4⟩
      go_wp2
      go_meet
      exact ⟨rfl, hb4⟩
    go_wp2_with fail
    refine (HOK.out W HB0.out).mono ?_
    rintro e w4 ⟨rfl, hb4⟩
    go_wp2_with fail
    refine (HTM.out _).mono ?_
    rintro e w5 ⟨rfl, rfl⟩
    go_wp2
    go_meet
    exact ⟨rfl, hb4⟩
  case rest =>
    obtain ⟨rfl, hbc⟩ := hcut
    have b0 := B0.out.below hbc (by omega)
    have zx := hbc.size
    have HBX : Hid (Below w.heap.size w wc) := Lib.hid (HB0.out.trans (hbc.mono (by omega)))
    clear hbc HB0 B0 p0 p1 p2 p3 HOK HTM
    obtain ⟨⟨p0, p1, p2, p3⟩, -⟩ := b0.cells
    cases hg : (ok && tm)
    · have HRF : Hid (ringTotal (sp, hd, cs, ss) now sums = 0) := Lib.hid (by rw [HRA.out, hg]; rfl)
      clear HRA HRO HLC HLS hg HLEN b0
      go_wp2
      refine bodyPost_ret (v := .int .i64 0) (by simp [results, Tryd.results48, go_sem]) rfl ?_
      rw [HRF.out]
      exact ⟨rfl, HBX.out⟩
    · simp only [Bool.and_eq_true] at hg
      obtain ⟨rfl, rfl⟩ := hg
      obtain ⟨o1, o2, o3, o4, o5, o6, o7⟩ := HLEN.out rfl
      have HO5 : Hid (qu.length = qc.length) := Lib.hid (by rw [HLC.out, HLS.out]; exact o5)
      have HRT : Hid (ringTotal (sp, hd, cs, ss) now sums = totalL (if sums = true then qu else qc)) := Lib.hid (by rw [HRA.out]; rfl)
      have hq8 : qc.length ≤ 8 := by rw [HLC.out]; exact o4
      clear HRA HLC HLS HLEN o5
      go_wp2_with fail
      refine (HRO.out wc HBX.out).mono ?_
      rintro e w1 ⟨vc', vs', rfl, hm1, hb1⟩
      obtain ⟨uc, us, hv, hnc, hns, hap⟩ := ring_mine hm1
      simp only [List.cons.injEq, and_true, true_and] at hv
      obtain ⟨rfl, rfl⟩ := hv
      obtain ⟨AU, cU, rfl, -⟩ := hnc.form
      obtain ⟨AV, cV, rfl, -⟩ := hns.form
      have z1 := hb1.size
      have HB1 : Hid (Below w.heap.size w w1) := Lib.hid (HBX.out.trans (hb1.mono (by omega)))
      have HU := Lib.hid hnc.rd
      have HV := Lib.hid hns.rd
      clear hm1 hb1 hnc hns hap p0 p1 p2 p3 b0 HBX HRO
      go_upto_region 4 with fail
      obtain ⟨W2, hW2⟩ : ∃ W2, W2 = w1.alloc (.cells #[.int .i64 qs, .int .i64 qh, .slice AU qc.length cU, .slice AV qu.length cV] 27) := ⟨_, rfl⟩
      have b2 := bk.new w1 27 [.int .i64 qs, .int .i64 qh, .slice AU qc.length cU, .slice AV qu.length cV]
      have hb2 := (Below.refl w1.heap.size w1).alloc (Nat.le_refl _) (.cells #[.int .i64 qs, .int .i64 qh, .slice AU qc.length cU, .slice AV qu.length cV] 27)
      rw [show ([Value.int .i64 qs, .int .i64 qh, .slice AU qc.length cU, .slice AV qu.length cV] : List Value).toArray = #[.int .i64 qs, .int .i64 qh, .slice AU qc.length cU, .slice AV qu.length cV] from rfl] at b2
      rw [← hW2] at b2 hb2 ⊢
      clear hW2
      have HB2 : Hid (Below w.heap.size w W2) := Lib.hid (HB1.out.trans (hb2.mono (by omega)))
      have HU := Lib.hid (HU.out.below hb2 (Nat.le_refl _))
      have HV := Lib.hid (HV.out.below hb2 (Nat.le_refl _))
      clear hb2 HB1
      obtain ⟨⟨p0, p1, p2, p3⟩, -⟩ := b2.cells
      clear b2
      cases sums
      · have HRT : Hid (ringTotal (sp, hd, cs, ss) now false = totalL qc) := Lib.hid (by rw [HRT.out]; rfl)
        go_wp2
        go_loopw [8, 24] (fun nv iv wr => ∃ i : Nat, i ≤ qc.length ∧ iv = .int .i64 i ∧ nv = .int .i64 (totalL (qc.take i)) ∧ wr = W2) (fun _ iv _ => qc.length - (intOf iv).toNat)
        case atStart => exact ⟨0, Nat.zero_le _, rfl, rfl, rfl⟩
        case round =>
          obtain ⟨i, hi', rfl, rfl, rfl⟩ := hrel
          by_cases hin : i < qc.length
          · obtain ⟨x, hx⟩ : ∃ x, qc[i]? = some x := ⟨_, List.getElem?_eq_getElem hin⟩
            obtain ⟨b, off, rfl, -, hc⟩ := ring_at HU.out hx
            have HNX := Lib.hid (totalL_next hx)
            clear hx
            have g1 : (i : Int) < (qc.length : Int) := by omega
            have g2 : 0 ≤ (i : Int) := by omega
            have HSA := Lib.hid (fun W => specSat_any (totalL (qc.take i)) x W)
            go_wp2_with fail
            refine (HSA.out _).mono ?_
            rintro e w5 ⟨rfl, rfl⟩
            go_wp2
            go_roundw
            case rel => exact ⟨i + 1, by omega, by go_num, by rw [HNX.out], trivial⟩
            case measure => simp [intOf] <;> omega
          · obtain rfl : i = qc.length := by omega
            rw [List.take_length]
            go_wp2
            refine bodyPost_ret (v := .int .i64 (totalL qc)) (by simp [results, Tryd.results48, go_sem]) rfl ?_
            rw [HRT.out]
            exact ⟨rfl, HB2.out⟩
      · have HRT : Hid (ringTotal (sp, hd, cs, ss) now true = totalL qu) := Lib.hid (by rw [HRT.out]; rfl)
        go_wp2
        go_loopw [8, 24] (fun nv iv wr => ∃ i : Nat, i ≤ qc.length ∧ iv = .int .i64 i ∧ nv = .int .i64 (totalL (qu.take i)) ∧ wr = W2) (fun _ iv _ => qc.length - (intOf iv).toNat)
        case atStart => exact ⟨0, Nat.zero_le _, rfl, rfl, rfl⟩
        case round =>
          obtain ⟨i, hi', rfl, rfl, rfl⟩ := hrel
          by_cases hin : i < qc.length
          · obtain ⟨x, hx⟩ : ∃ x, qu[i]? = some x := ⟨_, List.getElem?_eq_getElem (by rw [HO5.out]; exact hin)⟩
            obtain ⟨b, off, rfl, -, hc⟩ := ring_at HV.out hx
            have HNX := Lib.hid (totalL_next hx)
            clear hx
            have g1 : (i : Int) < (qc.length : Int) := by omega
            have g3 : (i : Int) < (qu.length : Int) := by have := HO5.out; omega
            have g2 : 0 ≤ (i : Int) := by omega
            have HSA := Lib.hid (fun W => specSat_any (totalL (qu.take i)) x W)
            go_wp2_with fail
            refine (HSA.out _).mono ?_
            rintro e w5 ⟨rfl, rfl⟩
            go_wp2
            go_roundw
            case rel => exact ⟨i + 1, by omega, by go_num, by rw [HNX.out], trivial⟩
            case measure => simp [intOf] <;> omega
          · obtain rfl : i = qc.length := by omega
            have HQL : Hid (qu.take qc.length = qu) := Lib.hid (by rw [← HO5.out, List.take_length])
            rw [HQL.out]
            go_wp2
            refine bodyPost_ret (v := .int .i64 (totalL qu)) (by simp [results, Tryd.results48, go_sem]) rfl ?_
            rw [HRT.out]
            exact ⟨rfl, HB2.out⟩

set_option maxRecDepth 100000 in
theorem specCount_any (hi : Nat) (vc vs : Value) (r : RingD) (now : Int) (w : World) (h1 : rd .i64 hi w vc r.2.2.1) (h2 : rd .i64 hi w vs r.2.2.2) (hh : hi ≤ w.heap.size) (hc : r.2.2.1.length ≤ 1048576) (hs : r.2.2.2.length ≤ 1048576) :
    Calls Tryd.prog 21 #[.agg #[.int .i64 r.1, .int .i64 r.2.1, vc, vs], .int .i64 now] w fun e w' => e = .returned (.int .i64 (ringTotal r now false)) ∧ Below w.heap.size w w' := by
  obtain ⟨A1, c1, rfl, -⟩ := h1.form
  obtain ⟨A2, c2, rfl, -⟩ := h2.form
  have HT := Lib.hid (fun W (hW : Below w.heap.size w W) => specTotal_any hi _ _ r now false W (h1.below hW hh) (h2.below hW hh) (Nat.le_trans hh hW.size) hc hs)
  clear h1 h2
  generalize ringTotal r now false = x at HT ⊢
  obtain ⟨sp, hd, cs, ss⟩ := r
  simp only at HT hc hs ⊢
  have HB0 : Hid (Below w.heap.size w (w.alloc (.cells #[.int .i64 sp, .int .i64 hd, .slice A1 cs.length c1, .slice A2 ss.length c2] 27))) := Lib.hid ((Below.refl _ _).alloc (Nat.le_refl _) _)
  go_enter Tryd.func21, Tryd.ntmps21
  go_wp2_with fail
  refine (HT.out _ HB0.out).mono ?_
  rintro e w1 ⟨rfl, hb⟩
  go_wp2
  go_ret
  exact ⟨rfl, HB0.out.trans (hb.mono (by simp))⟩
set_option maxRecDepth 100000 in
theorem specSum_any (hi : Nat) (vc vs : Value) (r : RingD) (now : Int) (w : World) (h1 : rd .i64 hi w vc r.2.2.1) (h2 : rd .i64 hi w vs r.2.2.2) (hh : hi ≤ w.heap.size) (hc : r.2.2.1.length ≤ 1048576) (hs : r.2.2.2.length ≤ 1048576) :
    Calls Tryd.prog 22 #[.agg #[.int .i64 r.1, .int .i64 r.2.1, vc, vs], .int .i64 now] w fun e w' => e = .returned (.int .i64 (ringTotal r now true)) ∧ Below w.heap.size w w' := by
  obtain ⟨A1, c1, rfl, -⟩ := h1.form
  obtain ⟨A2, c2, rfl, -⟩ := h2.form
  have HT := Lib.hid (fun W (hW : Below w.heap.size w W) => specTotal_any hi _ _ r now true W (h1.below hW hh) (h2.below hW hh) (Nat.le_trans hh hW.size) hc hs)
  clear h1 h2
  generalize ringTotal r now true = x at HT ⊢
  obtain ⟨sp, hd, cs, ss⟩ := r
  simp only at HT hc hs ⊢
  have HB0 : Hid (Below w.heap.size w (w.alloc (.cells #[.int .i64 sp, .int .i64 hd, .slice A1 cs.length c1, .slice A2 ss.length c2] 27))) := Lib.hid ((Below.refl _ _).alloc (Nat.le_refl _) _)
  go_enter Tryd.func22, Tryd.ntmps22
  go_wp2_with fail
  refine (HT.out _ HB0.out).mono ?_
  rintro e w1 ⟨rfl, hb⟩
  go_wp2
  go_ret
  exact ⟨rfl, HB0.out.trans (hb.mono (by simp))⟩
end Go.Proofs.YteogdfiaobccfaaDoor
