/- AcctSwept and AcctAt of the program; no conditions but the library's handle. -/
import Derived.Test.YtpeeagkfhdeagaaGreatDoorMrg3
import Derived.Test.YtpeeagkfhdeagaaGreatDoorMrg2
import Derived.Test.YtpeeagkfhdeagaaGreatDoorMrg1
import Derived.Test.YtpeeagkfhdeagaaGreatDoorRingH
import Derived.Test.YtpeeagkfhdeagaaGreatDoorSlotMk
import Derived.Test.YtpeeagkfhdeagaaGreatDoorMemT
import Derived.Test.YtpeeagkfhdeagaaGreatDoorNums
import Derived.OpenShut
import Derived.ChangeSlices
import Derived.Test.YtpeeagkfhdeagaaGreatDoorOpens
import Derived.Test.YtpeeagkfhdeagaaGreatDoorHold
import Derived.Test.YtpeeagkfhdeagaaGreatDoorSlot
import Derived.Test.YtpeeagkfhdeagaaGreatDoorAcctE
import Derived.Test.YtpeeagkfhdeagaaGreatDoorRingT
import Derived.Test.YtpeeagkfhdeagaaGreatDoorBase
import Derived.OpenVars
import Derived.Carry
set_option linter.unusedVariables false
namespace Go.Proofs.YtpeeagkfhdeagaaGreatDoor
open Go.ChangeShapes Go.WideShapes Go.ChangeAt Go.RowKit

set_option maxRecDepth 100000 in
theorem swapHI {p0 p1 p2 : Nat} {w : World} {vh vc vs vl vh' : Value} {a : AcctD} {l : List HoldD} (h : AcctI p0 p1 w vh vc vs vl a) (hl : HoldsR.mine p1 p2 w [vh'] l) (h01 : p0 ≤ p1) (h12 : p1 ≤ p2) : AcctI p0 p2 w vh' vc vs vl (setH a l) := by
  obtain ⟨l1, h1, l2, h2, l3, h3, m1, m2, m3, hq, d1, d2, d3⟩ := h
  exact ⟨p1, p2, l2, h2, l3, h3, hl, m2, m3, by omega, by omega, by omega, d3⟩
set_option maxRecDepth 100000 in
theorem swapRI {p0 p1 p2 : Nat} {w : World} {vh vc vs vl vc' vs' : Value} {a : AcctD} {r : RingD} (h : AcctI p0 p1 w vh vc vs vl a) (hl : RingR.mine p1 p2 w [.int .i64 r.1, .int .i64 r.2.1, vc', vs'] r) (h01 : p0 ≤ p1) (h12 : p1 ≤ p2) : AcctI p0 p2 w vh vc' vs' vl (setR a r) := by
  obtain ⟨l1, h1, l2, h2, l3, h3, m1, m2, m3, hq, d1, d2, d3⟩ := h
  exact ⟨l1, h1, p1, p2, l3, h3, m1, hl, m3, by omega, by omega, d2, by omega⟩
set_option maxRecDepth 100000 in
set_option maxHeartbeats 8000000 in
theorem implAcctSwept_any (hi : Nat) (vh vc vs vl : Value) (a : AcctD) (now : Int) (w : World) (hg : Handle w) (hz : acctSmall 1048576 a) (hbig : acctBig a) (h : AcctR.rd hi w (aCells a vh vc vs vl) a) (hh : hi ≤ w.heap.size) :
    Calls Tryz.prog 12 #[.agg #[.string (aId a), .int .i64 (aLim a), .int .i64 (aPos a), .int .i64 (aMost a), .int .i64 (aSum a), vh, .int .i64 (aR a).1, .int .i64 (aR a).2.1, vc, vs, vl], .int .i64 now] w (acctOneI (acctSwept a now) w) := by
  have HOK := Lib.hid (fun W (hW : Below w.heap.size w W) => implHasState_any hi vh vc vs vl a now W (hg.below hW (Nat.le_refl _)) hz hbig (Rep.below (R := AcctR) h hW hh) (Nat.le_trans hh hW.size))
  have HCP := Lib.hid (fun W (hW : Below w.heap.size w W) => acctCopy_any hi vh vc vs vl a W hz (Rep.below (R := AcctR) h hW hh) (Nat.le_trans hh hW.size))
  obtain ⟨vh', vc', vs', vl', hcs, r1, r2, r3, r4⟩ := acct_rd h
  simp only [aCells, List.cons.injEq, and_true, true_and] at hcs
  obtain ⟨rfl, rfl, rfl, rfl⟩ := hcs
  have HLV := Lib.hid (fun W (hW : Below w.heap.size w W) => implLiveOnes_any hi _ (aH a) now W hz.h (Rep.below (R := HoldsR) r1 hW hh) (Nat.le_trans hh hW.size))
  clear h hz hbig hg
  have HSW : Hid (acctSwept a now = if (acctOk a && timeB now) = true then setH a (liveL (aH a) now) else a) := Lib.hid rfl
  generalize (acctOk a && timeB now) = ok at HOK HSW
  generalize acctSwept a now = am at HSW ⊢
  generalize liveL (aH a) now = ls at HSW HLV
  obtain ⟨id, lim, pos, most, sum, hs, ⟨sp, hd, cs, ss⟩, sl⟩ := a
  simp only [aId, aLim, aPos, aMost, aSum, aH, aS] at r1 r2 r3 r4 HOK HCP HLV ⊢
  obtain ⟨AH, cH, rfl, -⟩ := Rep.slice_form r1
  obtain ⟨AC, cC, rfl, -⟩ := r2.form
  obtain ⟨AS, cS, rfl, -⟩ := r3.form
  obtain ⟨AL, cL, rfl, -⟩ := Rep.slice_form r4
  clear r1 r2 r3 r4
  go_enter Tryz.func12, Tryz.ntmps12
  go_upto_region 1 with fail
  obtain ⟨W, hW⟩ : ∃ W, W = (w.alloc (.cells #[.string id, .int .i64 lim, .int .i64 pos, .int .i64 most, .int .i64 sum, .slice AH hs.length cH, .int .i64 sp, .int .i64 hd, .slice AC cs.length cC, .slice AS ss.length cS, .slice AL sl.length cL] 35)).alloc (.cells #[.string ⟨#[]⟩, .int .i64 0, .int .i64 0, .int .i64 0, .int .i64 0, .slice none 0 0, .int .i64 0, .int .i64 0, .slice none 0 0, .slice none 0 0, .slice none 0 0] 35) := ⟨_, rfl⟩
  have b0 : bk W w.heap.size 35 [.string id, .int .i64 lim, .int .i64 pos, .int .i64 most, .int .i64 sum, .slice AH hs.length cH, .int .i64 sp, .int .i64 hd, .slice AC cs.length cC, .slice AS ss.length cS, .slice AL sl.length cL] := by rw [hW]; exact (bk.new w _ _).alloc _
  have b1 : bk W (w.heap.size + 1) 35 [.string ⟨#[]⟩, .int .i64 0, .int .i64 0, .int .i64 0, .int .i64 0, .slice none 0 0, .int .i64 0, .int .i64 0, .slice none 0 0, .slice none 0 0, .slice none 0 0] := by rw [hW]; simpa using bk.new (w.alloc _) 35 [.string ⟨#[]⟩, .int .i64 0, .int .i64 0, .int .i64 0, .int .i64 0, .slice none 0 0, .int .i64 0, .int .i64 0, .slice none 0 0, .slice none 0 0, .slice none 0 0]
  have HB0 : Hid (Below w.heap.size w W) := Lib.hid (by rw [hW]; exact ((Below.refl _ _).alloc (Nat.le_refl _) _).alloc (by simp) _)
  have y0 : w.heap.size + 2 ≤ W.heap.size := by rw [hW]; simp
  rw [← hW]
  clear hW
  obtain ⟨⟨p0, p1, p2, p3, p4, p5, p6, p7, p8, p9, p10⟩, -⟩ := b0.eleven
  have B0 := Lib.hid b0
  have B1 := Lib.hid b1
  clear b0 b1
  go_wp2_with fail
  refine (HCP.out W HB0.out).mono ?_
  rintro e w1 ⟨uh, uc, us, ul, rfl, hm1, hb1⟩
  obtain ⟨xh, xc, xs, xl, hcs, q1, q2, q3, q4⟩ := acct_rd hm1.mine.rd
  simp only [aCells, List.cons.injEq, and_true, true_and] at hcs
  obtain ⟨rfl, rfl, rfl, rfl⟩ := hcs
  obtain ⟨A1, c1, rfl, -⟩ := Rep.slice_form q1
  obtain ⟨A3, c3, rfl, -⟩ := q2.form
  obtain ⟨A4, c4, rfl, -⟩ := q3.form
  obtain ⟨A6, c6, rfl, -⟩ := Rep.slice_form q4
  have z1 := hb1.size
  have HM1 := Lib.hid hm1
  have HB1 : Hid (Below w.heap.size w w1) := Lib.hid (HB0.out.trans (hb1.mono (by omega)))
  have C0 := Lib.hid (B0.out.below hb1 (by omega))
  have C1 := Lib.hid (B1.out.below hb1 (by omega))
  clear hm1 hb1 HB0 HCP B0 B1 q1 q2 q3 q4 p0 p1 p2 p3 p4 p5 p6 p7 p8 p9 p10
  simp only [aH, aS, aId, aLim, aPos, aMost, aSum] at HM1 ⊢
  obtain ⟨⟨p0, p1, p2, p3, p4, p5, p6, p7, p8, p9, p10⟩, -⟩ := C0.out.eleven
  go_upto_region 2 with fail
  obtain ⟨W2, hW2⟩ : ∃ W2, W2 = w1.alloc (.cells #[.string id, .int .i64 lim, .int .i64 pos, .int .i64 most, .int .i64 sum, .slice A1 hs.length c1, .int .i64 sp, .int .i64 hd, .slice A3 cs.length c3, .slice A4 ss.length c4, .slice A6 sl.length c6] 35) := ⟨_, rfl⟩
  have b2 : bk W2 w1.heap.size 35 [.string id, .int .i64 lim, .int .i64 pos, .int .i64 most, .int .i64 sum, .slice A1 hs.length c1, .int .i64 sp, .int .i64 hd, .slice A3 cs.length c3, .slice A4 ss.length c4, .slice A6 sl.length c6] := by rw [hW2]; exact bk.new w1 _ _
  have hb2 : Below w1.heap.size w1 W2 := by rw [hW2]; exact (Below.refl _ _).alloc (Nat.le_refl _) _
  rw [← hW2]
  clear hW2
  have z2 := b2.lt
  have B0 := Lib.hid (C0.out.below hb2 (by omega))
  have B1 := Lib.hid (C1.out.below hb2 (by omega))
  have B2 := Lib.hid b2
  have HM2 := Lib.hid (HM1.out.below hb2 (Nat.le_refl _))
  have HB2 : Hid (Below w.heap.size w W2) := Lib.hid (HB1.out.trans (hb2.mono (by omega)))
  clear hb2 b2 C0 C1 HM1 HB1 p0 p1 p2 p3 p4 p5 p6 p7 p8 p9 p10
  obtain ⟨⟨p0, p1, p2, p3, p4, p5, p6, p7, p8, p9, p10⟩, -⟩ := B0.out.eleven
  go_wp2_with fail
  refine (HOK.out W2 HB2.out).mono ?_
  rintro e w3 ⟨rfl, hb3⟩
  have z3 := hb3.size
  have C0 := Lib.hid (B0.out.below hb3 (by omega))
  have C1 := Lib.hid (B1.out.below hb3 (by omega))
  have C2 := Lib.hid (B2.out.below hb3 (by omega))
  have HM3 := Lib.hid (HM2.out.below hb3 (by omega))
  have HB3 : Hid (Below w.heap.size w w3) := Lib.hid (HB2.out.trans (hb3.mono (by omega)))
  clear hb3 B0 B1 B2 HM2 HB2 HOK p0 p1 p2 p3 p4 p5 p6 p7 p8 p9 p10
  cases ok
  · have HAM : Hid (am = (id, lim, pos, most, sum, hs, (sp, hd, cs, ss), sl)) := Lib.hid (by rw [HSW.out]; rfl)
    clear HSW HLV
    have b1 := C1.out
    have b2 := C2.out
    clear C0 C1 C2
    obtain ⟨⟨p0, p1, p2, p3, p4, p5, p6, p7, p8, p9, p10⟩, -⟩ := b2.eleven
    obtain ⟨⟨r0, r1, r2, r3, r4, r5, r6, r7, r8, r9, r10⟩, g0, g1, g2, g3, g4, g5, g6, g7, g8, g9, g10⟩ := b1.eleven
    clear b1 b2
    go_wp2
    refine bodyPost_ret (v := .agg #[.string id, .int .i64 lim, .int .i64 pos, .int .i64 most, .int .i64 sum, .slice A1 hs.length c1, .int .i64 sp, .int .i64 hd, .slice A3 cs.length c3, .slice A4 ss.length c4, .slice A6 sl.length c6]) (by simp [results, Tryz.results12, go_sem, r0, r1, r2, r3, r4, r5, r6, r7, r8, r9, r10]) rfl ?_
    have ht := (((((((((((Turned.refl w.heap.size (w.heap.size + 2) w3).set (b := w.heap.size + 1) 0 (.string id) (by omega) (by omega)).set (b := w.heap.size + 1) 1 (.int .i64 lim) (by omega) (by omega)).set (b := w.heap.size + 1) 2 (.int .i64 pos) (by omega) (by omega)).set (b := w.heap.size + 1) 3 (.int .i64 most) (by omega) (by omega)).set (b := w.heap.size + 1) 4 (.int .i64 sum) (by omega) (by omega)).set (b := w.heap.size + 1) 5 (.slice A1 hs.length c1) (by omega) (by omega)).set (b := w.heap.size + 1) 6 (.int .i64 sp) (by omega) (by omega)).set (b := w.heap.size + 1) 7 (.int .i64 hd) (by omega) (by omega)).set (b := w.heap.size + 1) 8 (.slice A3 cs.length c3) (by omega) (by omega)).set (b := w.heap.size + 1) 9 (.slice A4 ss.length c4) (by omega) (by omega)).set (b := w.heap.size + 1) 10 (.slice A6 sl.length c6) (by omega) (by omega)
    have hsz := ht.size
    rw [HAM.out]
    exact ⟨_, _, _, _, rfl, (HM3.out.turned ht (.inr (by omega)) (by omega)).mono (by omega) (by omega), HB3.out.trans (ht.below (by omega) (by omega))⟩
  · have HAM : Hid (am = (id, lim, pos, most, sum, ls, (sp, hd, cs, ss), sl)) := Lib.hid (by rw [HSW.out]; rfl)
    clear HSW
    obtain ⟨⟨p0, p1, p2, p3, p4, p5, p6, p7, p8, p9, p10⟩, -⟩ := C0.out.eleven
    go_wp2_with fail
    refine (HLV.out w3 HB3.out).mono ?_
    rintro e w5 ⟨u, rfl, hu, hb5⟩
    obtain ⟨AN, cN, rfl, -⟩ := Rep.slice_form hu.rd
    have z5 := hb5.size
    have HM5 := Lib.hid (HM3.out.below hb5 (by omega))
    have HU5 := Lib.hid hu
    have HB5 : Hid (Below w.heap.size w w5) := Lib.hid (HB3.out.trans (hb5.mono (by omega)))
    have D1 := Lib.hid (C1.out.below hb5 (by omega))
    have D2 := Lib.hid (C2.out.below hb5 (by omega))
    clear hu hb5 HM3 HB3 HLV C0 C1 C2 p0 p1 p2 p3 p4 p5 p6 p7 p8 p9 p10
    obtain ⟨⟨p0, p1, p2, p3, p4, p5, p6, p7, p8, p9, p10⟩, f0, f1, f2, f3, f4, f5, f6, f7, f8, f9, f10⟩ := D2.out.eleven
    have hq := (D2.out.set 5 (.slice AN ls.length cN))
    have ht5 := (Turned.refl w1.heap.size (w1.heap.size + 1) w5).set (b := w1.heap.size) 5 (.slice AN ls.length cN) (by omega) (by omega)
    go_upto_region 4 with fail
    obtain ⟨W6, hW6⟩ : ∃ W6, W6 = (w5.setCell ⟨w1.heap.size, 5, none⟩ (.slice AN ls.length cN)) := ⟨_, rfl⟩
    rw [← hW6] at hq ht5 ⊢
    clear hW6
    have z6 := ht5.size
    have HM6 := Lib.hid (swapHI (HM5.out.turned ht5 (.inl (Nat.le_refl _)) (by omega)) ((HU5.out.turned ht5 (.inr (by omega)) (Nat.le_refl _)).mono (lo' := w1.heap.size) (hi' := W6.heap.size) (by omega) (by omega)) (by omega) (by omega))
    have HB6 := Lib.hid (HB5.out.trans (ht5.below (B := w.heap.size) (by omega) (by omega)))
    have b1 := D1.out.under ht5 (by omega)
    have b2 : bk W6 w1.heap.size 35 [.string id, .int .i64 lim, .int .i64 pos, .int .i64 most, .int .i64 sum, .slice AN ls.length cN, .int .i64 sp, .int .i64 hd, .slice A3 cs.length c3, .slice A4 ss.length c4, .slice A6 sl.length c6] := hq
    clear hq ht5 HM5 HU5 HB5 D1 D2 p0 p1 p2 p3 p4 p5 p6 p7 p8 p9 p10 f0 f1 f2 f3 f4 f5 f6 f7 f8 f9 f10
    simp only [setH, aId, aLim, aPos, aMost, aSum, aR, aS] at HM6
    obtain ⟨⟨p0, p1, p2, p3, p4, p5, p6, p7, p8, p9, p10⟩, -⟩ := b2.eleven
    obtain ⟨⟨r0, r1, r2, r3, r4, r5, r6, r7, r8, r9, r10⟩, g0, g1, g2, g3, g4, g5, g6, g7, g8, g9, g10⟩ := b1.eleven
    clear b1 b2
    go_wp2
    refine bodyPost_ret (v := .agg #[.string id, .int .i64 lim, .int .i64 pos, .int .i64 most, .int .i64 sum, .slice AN ls.length cN, .int .i64 sp, .int .i64 hd, .slice A3 cs.length c3, .slice A4 ss.length c4, .slice A6 sl.length c6]) (by simp [results, Tryz.results12, go_sem, r0, r1, r2, r3, r4, r5, r6, r7, r8, r9, r10]) rfl ?_
    have ht := (((((((((((Turned.refl w.heap.size (w.heap.size + 2) W6).set (b := w.heap.size + 1) 0 (.string id) (by omega) (by omega)).set (b := w.heap.size + 1) 1 (.int .i64 lim) (by omega) (by omega)).set (b := w.heap.size + 1) 2 (.int .i64 pos) (by omega) (by omega)).set (b := w.heap.size + 1) 3 (.int .i64 most) (by omega) (by omega)).set (b := w.heap.size + 1) 4 (.int .i64 sum) (by omega) (by omega)).set (b := w.heap.size + 1) 5 (.slice AN ls.length cN) (by omega) (by omega)).set (b := w.heap.size + 1) 6 (.int .i64 sp) (by omega) (by omega)).set (b := w.heap.size + 1) 7 (.int .i64 hd) (by omega) (by omega)).set (b := w.heap.size + 1) 8 (.slice A3 cs.length c3) (by omega) (by omega)).set (b := w.heap.size + 1) 9 (.slice A4 ss.length c4) (by omega) (by omega)).set (b := w.heap.size + 1) 10 (.slice A6 sl.length c6) (by omega) (by omega)
    have hsz := ht.size
    rw [HAM.out]
    exact ⟨_, _, _, _, rfl, (HM6.out.turned ht (.inr (by omega)) (by omega)).mono (by omega) (by omega), HB6.out.trans (ht.below (by omega) (by omega))⟩
set_option maxRecDepth 100000 in
set_option maxHeartbeats 8000000 in
theorem implAcctAt_any (hi : Nat) (vh vc vs vl : Value) (a : AcctD) (now : Int) (w : World) (hg : Handle w) (hz : acctSmall 1048576 a) (hbig : acctBig a) (h : AcctR.rd hi w (aCells a vh vc vs vl) a) (hh : hi ≤ w.heap.size) :
    Calls Tryz.prog 16 #[.agg #[.string (aId a), .int .i64 (aLim a), .int .i64 (aPos a), .int .i64 (aMost a), .int .i64 (aSum a), vh, .int .i64 (aR a).1, .int .i64 (aR a).2.1, vc, vs, vl], .int .i64 now] w (acctOneI (acctAt a now) w) := by
  have HOK := Lib.hid (fun W (hW : Below w.heap.size w W) => implHasState_any hi vh vc vs vl a now W (hg.below hW (Nat.le_refl _)) hz hbig (Rep.below (R := AcctR) h hW hh) (Nat.le_trans hh hW.size))
  have HCP := Lib.hid (fun W (hW : Below w.heap.size w W) => implAcctSwept_any hi vh vc vs vl a now W (hg.below hW (Nat.le_refl _)) hz hbig (Rep.below (R := AcctR) h hW hh) (Nat.le_trans hh hW.size))
  obtain ⟨vh', vc', vs', vl', hcs, r1, r2, r3, r4⟩ := acct_rd h
  simp only [aCells, List.cons.injEq, and_true, true_and] at hcs
  obtain ⟨rfl, rfl, rfl, rfl⟩ := hcs
  have HRL := Lib.hid (fun W (hW : Below w.heap.size w W) => implRingRoll_any hi _ _ (aR a) now W (r2.below hW hh) (r3.below hW hh) (Nat.le_trans hh hW.size) hz.c hz.s)
  clear h hz hbig hg
  have HSW : Hid (acctAt a now = if (acctOk a && timeB now) = true then setR (acctSwept a now) (ringRoll (aR a) now) else acctSwept a now) := Lib.hid rfl
  generalize (acctOk a && timeB now) = ok at HOK HSW
  generalize acctAt a now = am at HSW ⊢
  generalize acctSwept a now = a1 at HSW HCP
  obtain ⟨rr, hrr⟩ : ∃ rr, rr = ringRoll (aR a) now := ⟨_, rfl⟩
  rw [← hrr] at HRL HSW
  clear hrr
  obtain ⟨sp2, hd2, cs2, ss2⟩ := rr
  obtain ⟨id, lim, pos, most, sum, hs, ⟨sp, hd, cs, ss⟩, sl⟩ := a
  obtain ⟨id1, lim1, pos1, most1, sum1, hs1, ⟨sp1, hd1, cs1, ss1⟩, sl1⟩ := a1
  simp only [aId, aLim, aPos, aMost, aSum, aH, aS] at r1 r2 r3 r4 HOK HCP HRL ⊢
  obtain ⟨AH, cH, rfl, -⟩ := Rep.slice_form r1
  obtain ⟨AC, cC, rfl, -⟩ := r2.form
  obtain ⟨AS, cS, rfl, -⟩ := r3.form
  obtain ⟨AL, cL, rfl, -⟩ := Rep.slice_form r4
  clear r1 r2 r3 r4
  go_enter Tryz.func16, Tryz.ntmps16
  go_upto_region 1 with fail
  obtain ⟨W, hW⟩ : ∃ W, W = (w.alloc (.cells #[.string id, .int .i64 lim, .int .i64 pos, .int .i64 most, .int .i64 sum, .slice AH hs.length cH, .int .i64 sp, .int .i64 hd, .slice AC cs.length cC, .slice AS ss.length cS, .slice AL sl.length cL] 35)).alloc (.cells #[.string ⟨#[]⟩, .int .i64 0, .int .i64 0, .int .i64 0, .int .i64 0, .slice none 0 0, .int .i64 0, .int .i64 0, .slice none 0 0, .slice none 0 0, .slice none 0 0] 35) := ⟨_, rfl⟩
  have b0 : bk W w.heap.size 35 [.string id, .int .i64 lim, .int .i64 pos, .int .i64 most, .int .i64 sum, .slice AH hs.length cH, .int .i64 sp, .int .i64 hd, .slice AC cs.length cC, .slice AS ss.length cS, .slice AL sl.length cL] := by rw [hW]; exact (bk.new w _ _).alloc _
  have b1 : bk W (w.heap.size + 1) 35 [.string ⟨#[]⟩, .int .i64 0, .int .i64 0, .int .i64 0, .int .i64 0, .slice none 0 0, .int .i64 0, .int .i64 0, .slice none 0 0, .slice none 0 0, .slice none 0 0] := by rw [hW]; simpa using bk.new (w.alloc _) 35 [.string ⟨#[]⟩, .int .i64 0, .int .i64 0, .int .i64 0, .int .i64 0, .slice none 0 0, .int .i64 0, .int .i64 0, .slice none 0 0, .slice none 0 0, .slice none 0 0]
  have HB0 : Hid (Below w.heap.size w W) := Lib.hid (by rw [hW]; exact ((Below.refl _ _).alloc (Nat.le_refl _) _).alloc (by simp) _)
  have y0 : w.heap.size + 2 ≤ W.heap.size := by rw [hW]; simp
  rw [← hW]
  clear hW
  obtain ⟨⟨p0, p1, p2, p3, p4, p5, p6, p7, p8, p9, p10⟩, -⟩ := b0.eleven
  have B0 := Lib.hid b0
  have B1 := Lib.hid b1
  clear b0 b1
  go_wp2_with fail
  refine (HCP.out W HB0.out).mono ?_
  rintro e w1 ⟨uh, uc, us, ul, rfl, hm1, hb1⟩
  obtain ⟨xh, xc, xs, xl, hcs, q1, q2, q3, q4⟩ := acct_rd hm1.mine.rd
  simp only [aCells, List.cons.injEq, and_true, true_and] at hcs
  obtain ⟨rfl, rfl, rfl, rfl⟩ := hcs
  obtain ⟨A1, c1, rfl, -⟩ := Rep.slice_form q1
  obtain ⟨A3, c3, rfl, -⟩ := q2.form
  obtain ⟨A4, c4, rfl, -⟩ := q3.form
  obtain ⟨A6, c6, rfl, -⟩ := Rep.slice_form q4
  have z1 := hb1.size
  have HM1 := Lib.hid hm1
  have HB1 : Hid (Below w.heap.size w w1) := Lib.hid (HB0.out.trans (hb1.mono (by omega)))
  have C0 := Lib.hid (B0.out.below hb1 (by omega))
  have C1 := Lib.hid (B1.out.below hb1 (by omega))
  clear hm1 hb1 HB0 HCP B0 B1 q1 q2 q3 q4 p0 p1 p2 p3 p4 p5 p6 p7 p8 p9 p10
  simp only [aH, aS, aId, aLim, aPos, aMost, aSum] at HM1 ⊢
  obtain ⟨⟨p0, p1, p2, p3, p4, p5, p6, p7, p8, p9, p10⟩, -⟩ := C0.out.eleven
  go_upto_region 2 with fail
  obtain ⟨W2, hW2⟩ : ∃ W2, W2 = w1.alloc (.cells #[.string id1, .int .i64 lim1, .int .i64 pos1, .int .i64 most1, .int .i64 sum1, .slice A1 hs1.length c1, .int .i64 sp1, .int .i64 hd1, .slice A3 cs1.length c3, .slice A4 ss1.length c4, .slice A6 sl1.length c6] 35) := ⟨_, rfl⟩
  have b2 : bk W2 w1.heap.size 35 [.string id1, .int .i64 lim1, .int .i64 pos1, .int .i64 most1, .int .i64 sum1, .slice A1 hs1.length c1, .int .i64 sp1, .int .i64 hd1, .slice A3 cs1.length c3, .slice A4 ss1.length c4, .slice A6 sl1.length c6] := by rw [hW2]; exact bk.new w1 _ _
  have hb2 : Below w1.heap.size w1 W2 := by rw [hW2]; exact (Below.refl _ _).alloc (Nat.le_refl _) _
  rw [← hW2]
  clear hW2
  have z2 := b2.lt
  have B0 := Lib.hid (C0.out.below hb2 (by omega))
  have B1 := Lib.hid (C1.out.below hb2 (by omega))
  have B2 := Lib.hid b2
  have HM2 := Lib.hid (HM1.out.below hb2 (Nat.le_refl _))
  have HB2 : Hid (Below w.heap.size w W2) := Lib.hid (HB1.out.trans (hb2.mono (by omega)))
  clear hb2 b2 C0 C1 HM1 HB1 p0 p1 p2 p3 p4 p5 p6 p7 p8 p9 p10
  obtain ⟨⟨p0, p1, p2, p3, p4, p5, p6, p7, p8, p9, p10⟩, -⟩ := B0.out.eleven
  go_wp2_with fail
  refine (HOK.out W2 HB2.out).mono ?_
  rintro e w3 ⟨rfl, hb3⟩
  have z3 := hb3.size
  have C0 := Lib.hid (B0.out.below hb3 (by omega))
  have C1 := Lib.hid (B1.out.below hb3 (by omega))
  have C2 := Lib.hid (B2.out.below hb3 (by omega))
  have HM3 := Lib.hid (HM2.out.below hb3 (by omega))
  have HB3 : Hid (Below w.heap.size w w3) := Lib.hid (HB2.out.trans (hb3.mono (by omega)))
  clear hb3 B0 B1 B2 HM2 HB2 HOK p0 p1 p2 p3 p4 p5 p6 p7 p8 p9 p10
  cases ok
  · have HAM : Hid (am = (id1, lim1, pos1, most1, sum1, hs1, (sp1, hd1, cs1, ss1), sl1)) := Lib.hid (by rw [HSW.out]; rfl)
    clear HSW HRL
    have b1 := C1.out
    have b2 := C2.out
    clear C0 C1 C2
    obtain ⟨⟨p0, p1, p2, p3, p4, p5, p6, p7, p8, p9, p10⟩, -⟩ := b2.eleven
    obtain ⟨⟨r0, r1, r2, r3, r4, r5, r6, r7, r8, r9, r10⟩, g0, g1, g2, g3, g4, g5, g6, g7, g8, g9, g10⟩ := b1.eleven
    clear b1 b2
    go_wp2
    refine bodyPost_ret (v := .agg #[.string id1, .int .i64 lim1, .int .i64 pos1, .int .i64 most1, .int .i64 sum1, .slice A1 hs1.length c1, .int .i64 sp1, .int .i64 hd1, .slice A3 cs1.length c3, .slice A4 ss1.length c4, .slice A6 sl1.length c6]) (by simp [results, Tryz.results16, go_sem, r0, r1, r2, r3, r4, r5, r6, r7, r8, r9, r10]) rfl ?_
    have ht := (((((((((((Turned.refl w.heap.size (w.heap.size + 2) w3).set (b := w.heap.size + 1) 0 (.string id1) (by omega) (by omega)).set (b := w.heap.size + 1) 1 (.int .i64 lim1) (by omega) (by omega)).set (b := w.heap.size + 1) 2 (.int .i64 pos1) (by omega) (by omega)).set (b := w.heap.size + 1) 3 (.int .i64 most1) (by omega) (by omega)).set (b := w.heap.size + 1) 4 (.int .i64 sum1) (by omega) (by omega)).set (b := w.heap.size + 1) 5 (.slice A1 hs1.length c1) (by omega) (by omega)).set (b := w.heap.size + 1) 6 (.int .i64 sp1) (by omega) (by omega)).set (b := w.heap.size + 1) 7 (.int .i64 hd1) (by omega) (by omega)).set (b := w.heap.size + 1) 8 (.slice A3 cs1.length c3) (by omega) (by omega)).set (b := w.heap.size + 1) 9 (.slice A4 ss1.length c4) (by omega) (by omega)).set (b := w.heap.size + 1) 10 (.slice A6 sl1.length c6) (by omega) (by omega)
    have hsz := ht.size
    rw [HAM.out]
    exact ⟨_, _, _, _, rfl, (HM3.out.turned ht (.inr (by omega)) (by omega)).mono (by omega) (by omega), HB3.out.trans (ht.below (by omega) (by omega))⟩
  · have HAM : Hid (am = (id1, lim1, pos1, most1, sum1, hs1, (sp2, hd2, cs2, ss2), sl1)) := Lib.hid (by rw [HSW.out]; rfl)
    clear HSW
    obtain ⟨⟨p0, p1, p2, p3, p4, p5, p6, p7, p8, p9, p10⟩, -⟩ := C0.out.eleven
    go_wp2_with fail
    refine (HRL.out w3 HB3.out).mono ?_
    rintro e w5 ⟨uc, us, rfl, hu, hb5⟩
    obtain ⟨xc, xs, hcs, y2, y3⟩ := ring_rd hu.rd
    simp only [List.cons.injEq, and_true, true_and] at hcs
    obtain ⟨rfl, rfl⟩ := hcs
    obtain ⟨AN, cN, rfl, -⟩ := y2.form
    obtain ⟨AM, cM, rfl, -⟩ := y3.form
    simp only at hu ⊢
    clear y2 y3
    have z5 := hb5.size
    have HM5 := Lib.hid (HM3.out.below hb5 (by omega))
    have HU5 := Lib.hid hu
    have HB5 : Hid (Below w.heap.size w w5) := Lib.hid (HB3.out.trans (hb5.mono (by omega)))
    have D1 := Lib.hid (C1.out.below hb5 (by omega))
    have D2 := Lib.hid (C2.out.below hb5 (by omega))
    clear hu hb5 HM3 HB3 HRL C0 C1 C2 p0 p1 p2 p3 p4 p5 p6 p7 p8 p9 p10
    obtain ⟨⟨p0, p1, p2, p3, p4, p5, p6, p7, p8, p9, p10⟩, f0, f1, f2, f3, f4, f5, f6, f7, f8, f9, f10⟩ := D2.out.eleven
    have hq := ((((D2.out.set 6 (.int .i64 sp2)).set 7 (.int .i64 hd2)).set 8 (.slice AN cs2.length cN)).set 9 (.slice AM ss2.length cM))
    have ht5 := ((((Turned.refl w1.heap.size (w1.heap.size + 1) w5).set (b := w1.heap.size) 6 (.int .i64 sp2) (by omega) (by omega)).set (b := w1.heap.size) 7 (.int .i64 hd2) (by omega) (by omega)).set (b := w1.heap.size) 8 (.slice AN cs2.length cN) (by omega) (by omega)).set (b := w1.heap.size) 9 (.slice AM ss2.length cM) (by omega) (by omega)
    go_upto_region 4 with fail
    obtain ⟨W6, hW6⟩ : ∃ W6, W6 = ((((w5.setCell ⟨w1.heap.size, 6, none⟩ (.int .i64 sp2)).setCell ⟨w1.heap.size, 7, none⟩ (.int .i64 hd2)).setCell ⟨w1.heap.size, 8, none⟩ (.slice AN cs2.length cN)).setCell ⟨w1.heap.size, 9, none⟩ (.slice AM ss2.length cM)) := ⟨_, rfl⟩
    rw [← hW6] at hq ht5 ⊢
    clear hW6
    have z6 := ht5.size
    have HM6 := Lib.hid (swapRI (r := (sp2, hd2, cs2, ss2)) (p0 := W.heap.size) (p1 := w1.heap.size) (p2 := W6.heap.size) (HM5.out.turned ht5 (.inl (Nat.le_refl _)) (by omega)) ((HU5.out.turned ht5 (.inr (by omega)) (Nat.le_refl _)).mono (lo' := w1.heap.size) (hi' := W6.heap.size) (by omega) (by omega)) (by omega) (by omega))
    have HB6 := Lib.hid (HB5.out.trans (ht5.below (B := w.heap.size) (by omega) (by omega)))
    have b1 := D1.out.under ht5 (by omega)
    have b2 : bk W6 w1.heap.size 35 [.string id1, .int .i64 lim1, .int .i64 pos1, .int .i64 most1, .int .i64 sum1, .slice A1 hs1.length c1, .int .i64 sp2, .int .i64 hd2, .slice AN cs2.length cN, .slice AM ss2.length cM, .slice A6 sl1.length c6] := hq
    clear hq ht5 HM5 HU5 HB5 D1 D2 p0 p1 p2 p3 p4 p5 p6 p7 p8 p9 p10 f0 f1 f2 f3 f4 f5 f6 f7 f8 f9 f10
    simp only [setR, aId, aLim, aPos, aMost, aSum, aH, aS] at HM6
    obtain ⟨⟨p0, p1, p2, p3, p4, p5, p6, p7, p8, p9, p10⟩, -⟩ := b2.eleven
    obtain ⟨⟨r0, r1, r2, r3, r4, r5, r6, r7, r8, r9, r10⟩, g0, g1, g2, g3, g4, g5, g6, g7, g8, g9, g10⟩ := b1.eleven
    clear b1 b2
    go_wp2
    refine bodyPost_ret (v := .agg #[.string id1, .int .i64 lim1, .int .i64 pos1, .int .i64 most1, .int .i64 sum1, .slice A1 hs1.length c1, .int .i64 sp2, .int .i64 hd2, .slice AN cs2.length cN, .slice AM ss2.length cM, .slice A6 sl1.length c6]) (by simp [results, Tryz.results16, go_sem, r0, r1, r2, r3, r4, r5, r6, r7, r8, r9, r10]) rfl ?_
    have ht := (((((((((((Turned.refl w.heap.size (w.heap.size + 2) W6).set (b := w.heap.size + 1) 0 (.string id1) (by omega) (by omega)).set (b := w.heap.size + 1) 1 (.int .i64 lim1) (by omega) (by omega)).set (b := w.heap.size + 1) 2 (.int .i64 pos1) (by omega) (by omega)).set (b := w.heap.size + 1) 3 (.int .i64 most1) (by omega) (by omega)).set (b := w.heap.size + 1) 4 (.int .i64 sum1) (by omega) (by omega)).set (b := w.heap.size + 1) 5 (.slice A1 hs1.length c1) (by omega) (by omega)).set (b := w.heap.size + 1) 6 (.int .i64 sp2) (by omega) (by omega)).set (b := w.heap.size + 1) 7 (.int .i64 hd2) (by omega) (by omega)).set (b := w.heap.size + 1) 8 (.slice AN cs2.length cN) (by omega) (by omega)).set (b := w.heap.size + 1) 9 (.slice AM ss2.length cM) (by omega) (by omega)).set (b := w.heap.size + 1) 10 (.slice A6 sl1.length c6) (by omega) (by omega)
    have hsz := ht.size
    rw [HAM.out]
    exact ⟨_, _, _, _, rfl, (HM6.out.turned ht (.inr (by omega)) (by omega)).mono (by omega) (by omega), HB6.out.trans (ht.below (by omega) (by omega))⟩
end Go.Proofs.YtpeeagkfhdeagaaGreatDoor
/- Accounts: marks and looks at them; no conditions. -/
set_option linter.unusedVariables false
namespace Go.Proofs.YtpeeagkfhdeagaaGreatDoor
open Go.ChangeShapes Go.WideShapes Go.ChangeAt Go.RowKit

/-- the number with which the slots' marks begin -/
def kSl (a : AcctD) (k : Int) : Int := k + 3 * ((aH a).length : Int) + (aR a).2.2.1.length + (aR a).2.2.2.length
/-- the number behind the last mark -/
def kAcct (a : AcctD) (k : Int) : Int := kAt (kSl a k) (lensOf (aS a)) (aS a).length
def acctMark (a : AcctD) (k : Int) : AcctD := (aId a, aLim a, aPos a, aMost a, aSum a, holdsMark k (aH a).length, markedR (aR a) (k + 3 * ((aH a).length : Int)), slotsMark (kSl a k) (lensOf (aS a)))
set_option maxRecDepth 100000 in
set_option maxHeartbeats 4000000 in
theorem markAcct_any (lo hi : Nat) (vh vc vs vl : Value) (a : AcctD) (w : World) (hz : acctSmall 1048576 a) (hk : kAcct a 1 ≤ 1000000000) (h : AcctI lo hi w vh vc vs vl a) (hh : hi ≤ w.heap.size) :
    Calls Tryz.prog 13 #[.agg #[.string (aId a), .int .i64 (aLim a), .int .i64 (aPos a), .int .i64 (aMost a), .int .i64 (aSum a), vh, .int .i64 (aR a).1, .int .i64 (aR a).2.1, vc, vs, vl], .int .i64 1] w fun e w' => e = .returned (.int .i64 (kAcct a 1)) ∧ AcctI lo hi w' vh vc vs vl (acctMark a 1) ∧ Turned lo hi w w' := by
  obtain ⟨l1, h1, l2, h2, l3, h3, m1, m2, m3, ⟨x1, x2, x3, x4, x5, x6⟩, d1, d2, d3⟩ := h
  obtain ⟨id, lim, pos, most, sum, hs, ⟨sp, hd, cs, ss⟩, sl⟩ := a
  obtain ⟨z1, z2, z3, z4, -⟩ := hz
  simp only [aId, aLim, aPos, aMost, aSum, aH, aR, aS] at m1 m2 m3 z1 z2 z3 z4 ⊢
  obtain ⟨AH, cH, rfl, -⟩ := Rep.slice_form m1.rd
  obtain ⟨AC, cC, rfl, -⟩ := (ring2 m2.rd).1.form
  obtain ⟨AS, cS, rfl, -⟩ := (ring2 m2.rd).2.form
  obtain ⟨AL, cL, rfl, -⟩ := Rep.slice_form m3.rd
  simp only at m1 m2 m3
  have HM1 := Lib.hid (fun W (m : HoldsR.mine l1 h1 W [.slice AH hs.length cH] hs) (hW : h1 ≤ W.heap.size) => markHolds_any l1 h1 _ hs 1 W (by omega) (by decide) (by decide) m hW)
  have HM2 := Lib.hid (fun W (m : RingR.mine l2 h2 W [.int .i64 sp, .int .i64 hd, .slice AC cs.length cC, .slice AS ss.length cS] (sp, hd, cs, ss)) (hW : h2 ≤ W.heap.size) => markRing_r (r := (sp, hd, cs, ss)) (1 + 3 * (hs.length : Int)) (w := W) (by omega) (by omega) m hW (by simp only; omega) (by simp only; omega))
  have HM3 := Lib.hid (fun W (m : SlotsR.mine l3 h3 W [.slice AL sl.length cL] sl) (hW : h3 ≤ W.heap.size) => markSlots_any l3 h3 _ sl (kSl (id, lim, pos, most, sum, hs, (sp, hd, cs, ss), sl) 1) W (by unfold kSl; simp only [aH]; omega) hk m hW)
  have HK : Hid (kAcct (id, lim, pos, most, sum, hs, (sp, hd, cs, ss), sl) 1 = kAt (kSl (id, lim, pos, most, sum, hs, (sp, hd, cs, ss), sl) 1) (lensOf sl) sl.length) := Lib.hid rfl
  have HS : Hid (kSl (id, lim, pos, most, sum, hs, (sp, hd, cs, ss), sl) 1 = 1 + 3 * (hs.length : Int) + cs.length + ss.length) := Lib.hid rfl
  clear hk
  rw [HK.out]
  have HI : Hid (∀ W, HoldsR.mine l1 h1 W [.slice AH hs.length cH] (holdsMark 1 hs.length) → RingR.mine l2 h2 W [.int .i64 sp, .int .i64 hd, .slice AC cs.length cC, .slice AS ss.length cS] (markedR (sp, hd, cs, ss) (1 + 3 * (hs.length : Int))) → SlotsR.mine l3 h3 W [.slice AL sl.length cL] (slotsMark (kSl (id, lim, pos, most, sum, hs, (sp, hd, cs, ss), sl) 1) (lensOf sl)) → AcctI lo hi W (.slice AH hs.length cH) (.slice AC cs.length cC) (.slice AS ss.length cS) (.slice AL sl.length cL) (acctMark (id, lim, pos, most, sum, hs, (sp, hd, cs, ss), sl) 1)) := Lib.hid fun W a b c => ⟨l1, h1, l2, h2, l3, h3, a, b, c, ⟨x1, x2, x3, x4, x5, x6⟩, d1, d2, d3⟩
  generalize kSl (id, lim, pos, most, sum, hs, (sp, hd, cs, ss), sl) 1 = K at HM3 HS HI ⊢
  obtain rfl : K = 1 + 3 * (hs.length : Int) + cs.length + ss.length := HS.out
  have HN := Lib.hid (And.intro m1 (And.intro m2 m3))
  clear m1 m2 m3 HS HK
  go_enter Tryz.func13, Tryz.ntmps13
  go_upto_region 1 with fail
  obtain ⟨W, hW⟩ : ∃ W, W = w.alloc (.cells #[.string id, .int .i64 lim, .int .i64 pos, .int .i64 most, .int .i64 sum, .slice AH hs.length cH, .int .i64 sp, .int .i64 hd, .slice AC cs.length cC, .slice AS ss.length cS, .slice AL sl.length cL] 35) := ⟨_, rfl⟩
  have b0 : bk W w.heap.size 35 [.string id, .int .i64 lim, .int .i64 pos, .int .i64 most, .int .i64 sum, .slice AH hs.length cH, .int .i64 sp, .int .i64 hd, .slice AC cs.length cC, .slice AS ss.length cS, .slice AL sl.length cL] := by rw [hW]; exact bk.new w _ _
  have HB0 : Hid (Below w.heap.size w W) := Lib.hid (by rw [hW]; exact (Below.refl _ _).alloc (Nat.le_refl _) _)
  rw [← hW]
  clear hW
  have y0 := b0.lt
  have H1 := Lib.hid (HN.out.1.below HB0.out (by omega))
  have H2 := Lib.hid (HN.out.2.1.below HB0.out (by omega))
  have H3 := Lib.hid (HN.out.2.2.below HB0.out (by omega))
  have HT0 : Hid (Turned lo hi w W) := Lib.hid (Turned.of_below HB0.out)
  have B0 := Lib.hid b0
  clear b0 HN HB0
  obtain ⟨⟨p0, p1, p2, p3, p4, p5, p6, p7, p8, p9, p10⟩, -⟩ := B0.out.eleven
  go_wp2_with fail
  refine (HM1.out W H1.out (by omega)).mono ?_
  rintro e w1 ⟨rfl, hn1, ht1⟩
  have y1 := ht1.size
  replace B0 := Lib.hid (B0.out.under ht1 (by omega))
  replace H1 := Lib.hid hn1
  replace H2 := Lib.hid (H2.out.turned ht1 (by omega) (by omega))
  replace H3 := Lib.hid (H3.out.turned ht1 (by omega) (by omega))
  replace HT0 : Hid (Turned lo hi w w1) := Lib.hid (HT0.out.trans (ht1.mono (by omega) (by omega)))
  clear hn1 ht1 HM1 p0 p1 p2 p3 p4 p5 p6 p7 p8 p9 p10
  obtain ⟨⟨p0, p1, p2, p3, p4, p5, p6, p7, p8, p9, p10⟩, -⟩ := B0.out.eleven
  go_wp2_with fail
  refine (HM2.out w1 H2.out (by omega)).mono ?_
  rintro e w2 ⟨rfl, hn2, ht2⟩
  have y2 := ht2.size
  replace B0 := Lib.hid (B0.out.under ht2 (by omega))
  replace H1 := Lib.hid (H1.out.turned ht2 (by omega) (by omega))
  replace H2 := Lib.hid hn2
  replace H3 := Lib.hid (H3.out.turned ht2 (by omega) (by omega))
  replace HT0 : Hid (Turned lo hi w w2) := Lib.hid (HT0.out.trans (ht2.mono (by omega) (by omega)))
  clear hn2 ht2 HM2 p0 p1 p2 p3 p4 p5 p6 p7 p8 p9 p10
  obtain ⟨⟨p0, p1, p2, p3, p4, p5, p6, p7, p8, p9, p10⟩, -⟩ := B0.out.eleven
  go_wp2_with fail
  refine (HM3.out w2 H3.out (by omega)).mono ?_
  rintro e w3 ⟨rfl, hn3, ht3⟩
  have y3 := ht3.size
  replace H1 := Lib.hid (H1.out.turned ht3 (by omega) (by omega))
  replace H2 := Lib.hid (H2.out.turned ht3 (by omega) (by omega))
  replace H3 := Lib.hid hn3
  replace HT0 : Hid (Turned lo hi w w3) := Lib.hid (HT0.out.trans (ht3.mono (by omega) (by omega)))
  clear hn3 ht3 HM3 p0 p1 p2 p3 p4 p5 p6 p7 p8 p9 p10 B0
  go_wp2
  go_ret
  exact ⟨rfl, HI.out w3 H1.out H2.out H3.out, HT0.out⟩
set_option maxRecDepth 100000 in
set_option maxHeartbeats 4000000 in
theorem heldAcct_any (hi : Nat) (vh vc vs vl : Value) (a : AcctD) (w : World) (hz : acctSmall 1048576 a) (hk : kAcct a 1 ≤ 1000000000) (h : AcctR.rd hi w (aCells (acctMark a 1) vh vc vs vl) (acctMark a 1)) (hh : hi ≤ w.heap.size) :
    Calls Tryz.prog 14 #[.agg #[.string (aId a), .int .i64 (aLim a), .int .i64 (aPos a), .int .i64 (aMost a), .int .i64 (aSum a), vh, .int .i64 (aR a).1, .int .i64 (aR a).2.1, vc, vs, vl], .int .i64 1] w fun e w' => e = .returned (.int .i64 (kAcct a 1)) ∧ Below w.heap.size w w' := by
  obtain ⟨vh0, vc0, vs0, vl0, hcs, r1, r2, r3, r4⟩ := acct_rd h
  simp only [aCells, List.cons.injEq, and_true, true_and] at hcs
  obtain ⟨rfl, rfl, rfl, rfl⟩ := hcs
  clear h
  obtain ⟨id, lim, pos, most, sum, hs, ⟨sp, hd, cs, ss⟩, sl⟩ := a
  obtain ⟨z1, z2, z3, z4, -⟩ := hz
  simp only [acctMark, markedR, aId, aLim, aPos, aMost, aSum, aH, aR, aS] at r1 r2 r3 r4 z1 z2 z3 z4 ⊢
  obtain ⟨AH, cH, rfl, -⟩ := Rep.slice_form r1
  obtain ⟨AC, cC, rfl, -⟩ := r2.form
  obtain ⟨AS, cS, rfl, -⟩ := r3.form
  obtain ⟨AL, cL, rfl, -⟩ := Rep.slice_form r4
  have HK : Hid (kAcct (id, lim, pos, most, sum, hs, (sp, hd, cs, ss), sl) 1 = kAt (kSl (id, lim, pos, most, sum, hs, (sp, hd, cs, ss), sl) 1) (lensOf sl) sl.length) := Lib.hid rfl
  have HS : Hid (kSl (id, lim, pos, most, sum, hs, (sp, hd, cs, ss), sl) 1 = 1 + 3 * (hs.length : Int) + cs.length + ss.length) := Lib.hid rfl
  have HU := Lib.hid (kAt_up sl (kSl (id, lim, pos, most, sum, hs, (sp, hd, cs, ss), sl) 1))
  have HM1 := Lib.hid (fun W (hW : Below w.heap.size w W) => heldHolds_any hi _ hs.length 1 W (by omega) (by decide) (by decide) (Rep.below (R := HoldsR) r1 hW hh) (Nat.le_trans hh hW.size))
  have HM2 := Lib.hid (fun W (hW : Below w.heap.size w W) => heldRing_any hi _ _ sp hd cs.length ss.length (1 + 3 * (hs.length : Int)) W (by omega) (by omega) (r2.below hW hh) (r3.below hW hh) (Nat.le_trans hh hW.size) z2 z3)
  have HM3 := Lib.hid (fun W (hW : Below w.heap.size w W) => heldSlots_any hi _ (lensOf sl) (kSl (id, lim, pos, most, sum, hs, (sp, hd, cs, ss), sl) 1) W (by unfold kSl; simp only [aH]; omega) (by rw [lensOf_len]; exact hk) (Rep.below (R := SlotsR) r4 hW hh) (Nat.le_trans hh hW.size))
  rw [holdsMark_len] at HM1 ⊢
  rw [marks_length] at HM2 ⊢
  rw [marks_length] at HM2 ⊢
  rw [slotsMark_len, lensOf_len] at HM3 ⊢
  clear hk r1 r2 r3 r4
  rw [HK.out]
  generalize kSl (id, lim, pos, most, sum, hs, (sp, hd, cs, ss), sl) 1 = K at HM3 HS HU ⊢
  obtain rfl : K = 1 + 3 * (hs.length : Int) + cs.length + ss.length := HS.out
  generalize kAt (1 + 3 * (hs.length : Int) + cs.length + ss.length) (lensOf sl) sl.length = K2 at HM3 HU ⊢
  have hu := HU.out
  clear HS HK HU
  go_enter Tryz.func14, Tryz.ntmps14
  go_upto_region 1 with fail
  obtain ⟨W, hW⟩ : ∃ W, W = w.alloc (.cells #[.string id, .int .i64 lim, .int .i64 pos, .int .i64 most, .int .i64 sum, .slice AH hs.length cH, .int .i64 sp, .int .i64 hd, .slice AC cs.length cC, .slice AS ss.length cS, .slice AL sl.length cL] 35) := ⟨_, rfl⟩
  have b0 : bk W w.heap.size 35 [.string id, .int .i64 lim, .int .i64 pos, .int .i64 most, .int .i64 sum, .slice AH hs.length cH, .int .i64 sp, .int .i64 hd, .slice AC cs.length cC, .slice AS ss.length cS, .slice AL sl.length cL] := by rw [hW]; exact bk.new w _ _
  have HB0 : Hid (Below w.heap.size w W) := Lib.hid (by rw [hW]; exact (Below.refl _ _).alloc (Nat.le_refl _) _)
  rw [← hW]
  clear hW
  have y0 := b0.lt
  have B0 := Lib.hid b0
  clear b0
  obtain ⟨⟨p0, p1, p2, p3, p4, p5, p6, p7, p8, p9, p10⟩, -⟩ := B0.out.eleven
  go_wp2_with fail
  refine (HM1.out W HB0.out).mono ?_
  rintro e w1 ⟨rfl, hb1⟩
  have y1 := hb1.size
  have kk : ¬ (1 + 3 * (hs.length : Int) < 0) := by omega
  replace B0 := Lib.hid (B0.out.below hb1 (by omega))
  have HB1 : Hid (Below w.heap.size w w1) := Lib.hid (HB0.out.trans (hb1.mono (by omega)))
  clear hb1 HM1 HB0 p0 p1 p2 p3 p4 p5 p6 p7 p8 p9 p10
  obtain ⟨⟨p0, p1, p2, p3, p4, p5, p6, p7, p8, p9, p10⟩, -⟩ := B0.out.eleven
  go_wp2_with fail
  refine (HM2.out w1 HB1.out).mono ?_
  rintro e w2 ⟨rfl, hb2⟩
  have y2 := hb2.size
  have kk2 : ¬ (1 + 3 * (hs.length : Int) + cs.length + ss.length < 0) := by omega
  replace B0 := Lib.hid (B0.out.below hb2 (by omega))
  have HB2 : Hid (Below w.heap.size w w2) := Lib.hid (HB1.out.trans (hb2.mono (by omega)))
  clear hb2 HM2 HB1 p0 p1 p2 p3 p4 p5 p6 p7 p8 p9 p10
  obtain ⟨⟨p0, p1, p2, p3, p4, p5, p6, p7, p8, p9, p10⟩, -⟩ := B0.out.eleven
  go_wp2_with fail
  refine (HM3.out w2 HB2.out).mono ?_
  rintro e w3 ⟨rfl, hb3⟩
  have kk3 : ¬ (K2 < 0) := by omega
  have HB3 : Hid (Below w.heap.size w w3) := Lib.hid (HB2.out.trans (hb3.mono (by omega)))
  clear hb3 HM3 HB2 p0 p1 p2 p3 p4 p5 p6 p7 p8 p9 p10 B0
  go_wp2
  go_ret
  exact ⟨rfl, HB3.out⟩
set_option maxRecDepth 100000 in
theorem kAcct_up (a : AcctD) : 1 ≤ kAcct a 1 := by
  have h := kAt_up (aS a) (kSl a 1)
  unfold kAcct
  have h2 : 1 ≤ kSl a 1 := by unfold kSl; omega
  omega
/-- an account and a truth as they are given back, the account's parts in intervals -/
def acctResI (a : AcctD) (ok : Bool) (w : World) (e : Ending) (w' : World) : Prop := ∃ vh vc vs vl, e = .returned (.tuple #[.agg #[.string (aId a), .int .i64 (aLim a), .int .i64 (aPos a), .int .i64 (aMost a), .int .i64 (aSum a), vh, .int .i64 (aR a).1, .int .i64 (aR a).2.1, vc, vs, vl], .bool ok]) ∧ AcctI w.heap.size w'.heap.size w' vh vc vs vl a ∧ Below w.heap.size w w'
end Go.Proofs.YtpeeagkfhdeagaaGreatDoor
/- Swept and rolled accounts: their sizes; no conditions. -/
set_option linter.unusedVariables false
namespace Go.Proofs.YtpeeagkfhdeagaaGreatDoor
/-- what a law asks of an account that it marks -/
def acctFit (a : AcctD) : Prop := acctSmall 1048576 a ∧ kAcct a 1 ≤ 1000000000
set_option maxRecDepth 100000 in
theorem kAcct_sz {a : AcctD} {N : Nat} (h : acctSz a ≤ N) : kAcct a 1 ≤ 1 + 6 * (N : Int) := by
  unfold acctSz at h
  have h1 : slotsSz (aS a) ≤ N - ((aR a).2.2.1.length + (aR a).2.2.2.length + holdsSz (aH a)) := by omega
  have h2 := kAt_sz h1 (kSl a 1)
  have h3 : (aH a).length ≤ holdsSz (aH a) := by unfold holdsSz; omega
  unfold kAcct
  unfold kSl at h2 ⊢
  omega
set_option maxRecDepth 100000 in
theorem acct_fit {a : AcctD} (h : acctSz a ≤ 1048576) : acctFit a := ⟨acct_small h, by have := kAcct_sz h; omega⟩
set_option maxRecDepth 100000 in
theorem holdsSz_live (l : List HoldD) (now : Int) : holdsSz (liveL l now) ≤ holdsSz l := by
  unfold holdsSz liveL
  induction l with
  | nil => exact Nat.le_refl _
  | cons x l ih =>
    rw [List.filter_cons]
    split
    · simp only [List.map_cons, List.sum_cons, List.length_cons]; omega
    · simp only [List.map_cons, List.sum_cons, List.length_cons]; omega
set_option maxRecDepth 100000 in
theorem acctSz_swept (a : AcctD) (now : Int) : acctSz (acctSwept a now) ≤ acctSz a := by
  unfold acctSwept
  split
  · have := holdsSz_live (aH a) now
    simp only [acctSz, aId, aH, aR, aS] at this ⊢
    omega
  · exact Nat.le_refl _
set_option maxRecDepth 100000 in
theorem ringRoll_lens (r : RingD) (now : Int) : (ringRoll r now).2.2.1.length = r.2.2.1.length ∧ (ringRoll r now).2.2.2.length = r.2.2.2.length := by
  unfold ringRoll
  split
  · exact ⟨shiftL_len _ _, shiftL_len _ _⟩
  · exact ⟨rfl, rfl⟩
set_option maxRecDepth 100000 in
theorem acctSz_at (a : AcctD) (now : Int) : acctSz (acctAt a now) ≤ acctSz a := by
  have h := acctSz_swept a now
  unfold acctAt
  split
  · have h1 := ringRoll_lens (aR a) now
    have hr : aR (acctSwept a now) = aR a := by unfold acctSwept; split <;> rfl
    unfold acctSz at h ⊢
    rw [hr] at h
    show (aId (acctSwept a now)).size + holdsSz (aH (acctSwept a now)) + ((ringRoll (aR a) now).2.2.1.length + (ringRoll (aR a) now).2.2.2.length) + slotsSz (aS (acctSwept a now)) ≤ _
    rw [h1.1, h1.2]
    exact h
  · exact h
end Go.Proofs.YtpeeagkfhdeagaaGreatDoor
/- A slice of ints that came in reads as a list of ints. -/
set_option linter.unusedVariables false
namespace Go.Proofs.YtpeeagkfhdeagaaGreatDoor
open Go.ChangeShapes Go.WideShapes Go.ChangeAt Go.RowKit Go.WideElems

set_option maxRecDepth 100000 in
theorem cellsNI64 : Tryz.prog.cellsOf 3 = 1 := by kernel_rfl
set_option maxRecDepth 100000 in
theorem open_rdInts {H : Type} {enc : TypeId × Value → H} {W : World} {base : Nat} {v : Value} {d : DataW H} {p : List MemPlace} (hval : Value.okWide Tryz.prog W .any base 23 v) (h : DataW.Trod enc Tryz.prog W 0 (fun _ => true) true 23 v d p) : ∃ l, rd .i64 W.heap.size W v l ∧ isInts l := by
  obtain ⟨ao, len, cap, rfl⟩ := okWide_slice Tryz.underlying23 hval
  obtain ⟨fuel, hf⟩ := h
  rcases open_ints Tryz.underlying23 Tryz.underlying3 cellsNI64 hf with ⟨hcs, hx⟩ | ⟨a, len', cap', zs, hcs, _, hl, hm, hz, hx, hcell, hwz⟩
  · simp only [Value.cells, List.cons.injEq, Value.slice.injEq, and_true] at hcs
    obtain ⟨rfl, rfl, rfl⟩ := hcs
    exact ⟨[], ⟨none, 0, rfl, Nat.le_refl _, fun j hj => by simp at hj⟩, fun z hz => by simp at hz⟩
  · simp only [Value.cells, List.cons.injEq, Value.slice.injEq, and_true] at hcs
    obtain ⟨rfl, rfl, rfl⟩ := hcs
    simp only [if_true] at hz
    have hlen : (zs.take len).length = len := by rw [List.length_take]; omega
    refine ⟨zs.take len, ⟨some a, cap, by rw [hlen], by omega, fun i hi => ?_⟩, fun z hzm => bounds_i64 (hwz z (List.mem_of_mem_take hzm))⟩
    rw [hlen] at hi
    obtain ⟨b, off, rfl, hc⟩ := ints_at hcell (by omega)
    have h0 := hc i (by omega)
    have hb : b < W.heap.size := by
      rcases Nat.lt_or_ge b W.heap.size with h' | h'
      · exact h'
      · simp [World.cell?, Array.getElem?_eq_none h'] at h0
    refine ⟨b, off, rfl, hb, ?_⟩
    rw [h0, List.getD_eq_getElem?_getD, List.getD_eq_getElem?_getD, List.getElem?_take_of_lt hi]
end Go.Proofs.YtpeeagkfhdeagaaGreatDoor
/- A hold, a slice of holds that a law is given. -/
set_option linter.unusedVariables false
namespace Go.Proofs.YtpeeagkfhdeagaaGreatDoor
open Go.ChangeShapes Go.WideShapes Go.ChangeAt Go.RowKit Go.Deep

set_option maxRecDepth 100000 in
theorem opens_hold {H : Type} {enc : TypeId × Value → H} {W : World} : Opens enc Tryz.prog W HoldR 66 (fun x => x.1.size ≤ maxLen ∧ (Lit.int .i64 x.2.1).wf = true ∧ (Lit.int .i64 x.2.2).wf = true) :=
  opens_struct Tryz.underlying66 (by kernel_rfl) (opensF_cons (opens_str Tryz.underlying9) rfl (by kernel_rfl) (opensF_cons (opens_int Tryz.underlying3) rfl (by kernel_rfl) (opensF_one (opens_int Tryz.underlying3) rfl (by kernel_rfl))))
set_option maxRecDepth 100000 in
theorem open_hold {H : Type} {enc : TypeId × Value → H} {W : World} {base : Nat} {v : Value} {d : DataW H} {p : List MemPlace} (hval : Value.okWide Tryz.prog W .any base 66 v) (h : DataW.Trod enc Tryz.prog W 0 (fun _ => true) true 66 v d p) :
    ∃ x : HoldD, v = .agg #[.string x.1, .int .i64 x.2.1, .int .i64 x.2.2] ∧ x.1.size ≤ maxLen := by
  obtain ⟨cs, rfl, hsz⟩ := okWide_struct Tryz.underlying66 hval
  obtain ⟨fuel, hf⟩ := h
  obtain ⟨x, hr, h1, h2⟩ := opens_hold fuel _ _ hf
  refine ⟨x, ?_, h1⟩
  have hcs : cs.toList = [.string x.1, .int .i64 x.2.1, .int .i64 x.2.2] := hold_rd.1 hr
  rw [← hcs]
set_option maxRecDepth 100000 in
theorem open_holds {H : Type} {enc : TypeId × Value → H} {W : World} {base : Nat} {v : Value} {d : DataW H} {p : List MemPlace} (hval : Value.okWide Tryz.prog W .any base 22 v) (h : DataW.Trod enc Tryz.prog W 0 (fun _ => true) true 22 v d p) :
    ∃ l : List HoldD, HoldsR.rd W.heap.size W [v] l ∧ l.length ≤ maxLen ∧ ∀ x ∈ l, x.1.size ≤ maxLen := by
  obtain ⟨ao, len, cap, rfl⟩ := okWide_slice Tryz.underlying22 hval
  obtain ⟨fuel, hf⟩ := h
  have hL := opens_slice (by decide) Tryz.underlying22 (by kernel_rfl) (opens_hold (enc := enc) (W := W))
  obtain ⟨l, hr, h1, h2⟩ := hL fuel _ _ hf
  exact ⟨l, hr, h1, fun x hx => (h2 x hx).1⟩
end Go.Proofs.YtpeeagkfhdeagaaGreatDoor
/- A slice of bytes that came in reads as a list of bytes. -/
set_option linter.unusedVariables false
namespace Go.Proofs.YtpeeagkfhdeagaaGreatDoor
open Go.ChangeShapes Go.WideShapes Go.ChangeAt Go.RowKit Go.WideElems

set_option maxRecDepth 100000 in
theorem cellsNU8 : Tryz.prog.cellsOf 5 = 1 := by kernel_rfl
set_option maxRecDepth 100000 in
theorem open_rdBytes {H : Type} {enc : TypeId × Value → H} {W : World} {base : Nat} {v : Value} {d : DataW H} {p : List MemPlace} (hval : Value.okWide Tryz.prog W .any base 69 v) (h : DataW.Trod enc Tryz.prog W 0 (fun _ => true) true 69 v d p) : ∃ l, rd .u8 W.heap.size W v l ∧ isBytes l := by
  obtain ⟨ao, len, cap, rfl⟩ := okWide_slice Tryz.underlying69 hval
  obtain ⟨fuel, hf⟩ := h
  rcases open_ints Tryz.underlying69 Tryz.underlying5 cellsNU8 hf with ⟨hcs, hx⟩ | ⟨a, len', cap', zs, hcs, _, hl, hm, hz, hx, hcell, hwz⟩
  · simp only [Value.cells, List.cons.injEq, Value.slice.injEq, and_true] at hcs
    obtain ⟨rfl, rfl, rfl⟩ := hcs
    exact ⟨[], ⟨none, 0, rfl, Nat.le_refl _, fun j hj => by simp at hj⟩, fun z hz => by simp at hz⟩
  · simp only [Value.cells, List.cons.injEq, Value.slice.injEq, and_true] at hcs
    obtain ⟨rfl, rfl, rfl⟩ := hcs
    simp only [if_true] at hz
    have hlen : (zs.take len).length = len := by rw [List.length_take]; omega
    refine ⟨zs.take len, ⟨some a, cap, by rw [hlen], by omega, fun i hi => ?_⟩, fun z hzm => bounds_u8 (hwz z (List.mem_of_mem_take hzm))⟩
    rw [hlen] at hi
    obtain ⟨b, off, rfl, hc⟩ := ints_at hcell (by omega)
    have h0 := hc i (by omega)
    have hb : b < W.heap.size := by
      rcases Nat.lt_or_ge b W.heap.size with h' | h'
      · exact h'
      · simp [World.cell?, Array.getElem?_eq_none h'] at h0
    refine ⟨b, off, rfl, hb, ?_⟩
    rw [h0, List.getD_eq_getElem?_getD, List.getD_eq_getElem?_getD, List.getElem?_take_of_lt hi]
end Go.Proofs.YtpeeagkfhdeagaaGreatDoor
/- A slot, a slice of slots that a law is given. -/
set_option linter.unusedVariables false
namespace Go.Proofs.YtpeeagkfhdeagaaGreatDoor
open Go.ChangeShapes Go.WideShapes Go.ChangeAt Go.RowKit Go.Deep

set_option maxRecDepth 100000 in
theorem opens_slot {H : Type} {enc : TypeId × Value → H} {W : World} : Opens enc Tryz.prog W SlotR 71 (fun x => x.1.size ≤ maxLen ∧ x.2.1.size ≤ maxLen ∧ (x.2.2.length ≤ maxLen ∧ ∀ y ∈ x.2.2, (Lit.int .u8 y).wf = true)) :=
  opens_struct Tryz.underlying71 (by kernel_rfl) (opensF_cons (opens_str Tryz.underlying9) rfl (by kernel_rfl) (opensF_cons (opens_str Tryz.underlying9) rfl (by kernel_rfl) (opensF_one (opens_slice (by decide) Tryz.underlying69 (by kernel_rfl) (opens_int Tryz.underlying5)) rfl (by kernel_rfl))))
set_option maxRecDepth 100000 in
theorem wf_u8 {y : Int} (h : (Lit.int .u8 y).wf = true) : 0 ≤ y ∧ y ≤ 255 := by
  have e1 : IntKind.u8.min = 0 := rfl
  have e2 : IntKind.u8.max = 255 := rfl
  simp [Lit.wf] at h
  omega
set_option maxRecDepth 100000 in
theorem open_slot {H : Type} {enc : TypeId × Value → H} {W : World} {base : Nat} {v : Value} {d : DataW H} {p : List MemPlace} (hval : Value.okWide Tryz.prog W .any base 71 v) (h : DataW.Trod enc Tryz.prog W 0 (fun _ => true) true 71 v d p) :
    ∃ (x : SlotD) (u : Value), v = .agg #[.string x.1, .string x.2.1, u] ∧ rd .u8 W.heap.size W u x.2.2 ∧ x.1.size ≤ maxLen ∧ x.2.1.size ≤ maxLen ∧ x.2.2.length ≤ maxLen ∧ isBytes x.2.2 := by
  obtain ⟨cs, rfl, hsz⟩ := okWide_struct Tryz.underlying71 hval
  obtain ⟨fuel, hf⟩ := h
  obtain ⟨x, hr, h1, h2, h3, h4⟩ := opens_slot fuel _ _ hf
  obtain ⟨u, hcs, hu⟩ := slot_rd hr
  refine ⟨x, u, ?_, hu, h1, h2, h3, fun y hy => wf_u8 (h4 y hy)⟩
  have hcs' : cs.toList = [.string x.1, .string x.2.1, u] := hcs
  rw [← hcs']
set_option maxRecDepth 100000 in
theorem open_slots {H : Type} {enc : TypeId × Value → H} {W : World} {base : Nat} {v : Value} {d : DataW H} {p : List MemPlace} (hval : Value.okWide Tryz.prog W .any base 26 v) (h : DataW.Trod enc Tryz.prog W 0 (fun _ => true) true 26 v d p) :
    ∃ l : List SlotD, SlotsR.rd W.heap.size W [v] l ∧ l.length ≤ maxLen ∧ ∀ x ∈ l, x.1.size ≤ maxLen ∧ x.2.1.size ≤ maxLen ∧ x.2.2.length ≤ maxLen ∧ isBytes x.2.2 := by
  obtain ⟨ao, len, cap, rfl⟩ := okWide_slice Tryz.underlying26 hval
  obtain ⟨fuel, hf⟩ := h
  have hL := opens_slice (by decide) Tryz.underlying26 (by kernel_rfl) (opens_slot (enc := enc) (W := W))
  obtain ⟨l, hr, h1, h2⟩ := hL fuel _ _ hf
  exact ⟨l, hr, h1, fun x hx => ⟨(h2 x hx).1, (h2 x hx).2.1, (h2 x hx).2.2.1, fun y hy => wf_u8 ((h2 x hx).2.2.2 y hy)⟩⟩
end Go.Proofs.YtpeeagkfhdeagaaGreatDoor
/- An account that a law is given. -/
set_option linter.unusedVariables false
namespace Go.Proofs.YtpeeagkfhdeagaaGreatDoor
open Go.ChangeShapes Go.WideShapes Go.ChangeAt Go.RowKit Go.Deep

set_option maxRecDepth 100000 in
theorem open_acct {H : Type} {enc : TypeId × Value → H} {W : World} {base : Nat} {v : Value} {d : DataW H} {p : List MemPlace} (hval : Value.okWide Tryz.prog W .any base 28 v) (h : DataW.Trod enc Tryz.prog W 0 (fun _ => true) true 28 v d p) :
    ∃ (a : AcctD) (vh vc vs vl : Value), v = .agg #[.string (aId a), .int .i64 (aLim a), .int .i64 (aPos a), .int .i64 (aMost a), .int .i64 (aSum a), vh, .int .i64 (aR a).1, .int .i64 (aR a).2.1, vc, vs, vl] ∧ AcctR.rd W.heap.size W (aCells a vh vc vs vl) a ∧ acctBig a := by
  obtain ⟨cs, rfl, hsz⟩ := okWide_struct Tryz.underlying28 hval
  obtain ⟨fuel, hf⟩ := h
  have hL := opens_slice (by decide) Tryz.underlying22 (by kernel_rfl) (opens_hold (enc := enc) (W := W))
  have hS := opens_slice (by decide) Tryz.underlying26 (by kernel_rfl) (opens_slot (enc := enc) (W := W))
  have hI0 : Opens enc Tryz.prog W (Rep.int .i64) 3 _ := opens_int Tryz.underlying3
  have hI : Opens enc Tryz.prog W IntsR 23 _ := opens_slice (by decide) Tryz.underlying23 (by kernel_rfl) hI0
  have hR : Opens enc Tryz.prog W RingR 25 _ := opens_struct Tryz.underlying25 (by kernel_rfl) (opensF_cons hI0 rfl (by kernel_rfl) (opensF_cons hI0 rfl (by kernel_rfl) (opensF_cons hI rfl (by kernel_rfl) (opensF_one hI rfl (by kernel_rfl)))))
  have hA : Opens enc Tryz.prog W AcctR 28 _ := opens_struct Tryz.underlying28 (by kernel_rfl) (opensF_cons (opens_str Tryz.underlying9) rfl (by kernel_rfl) (opensF_cons (opens_int Tryz.underlying3) rfl (by kernel_rfl) (opensF_cons (opens_int Tryz.underlying3) rfl (by kernel_rfl) (opensF_cons (opens_int Tryz.underlying3) rfl (by kernel_rfl) (opensF_cons (opens_int Tryz.underlying3) rfl (by kernel_rfl) (opensF_cons hL rfl (by kernel_rfl) (opensF_cons hR rfl (by kernel_rfl) (opensF_one hS rfl (by kernel_rfl)))))))))
  obtain ⟨a, hr, h1, h2, h3, h4, h5, ⟨h6, h7⟩, ⟨h8, h9, ⟨h10, h11⟩, h12, h13⟩, h14, h15⟩ := hA fuel _ _ hf
  obtain ⟨vh, vc, vs, vl, hcs, q1, q2, q3, q4⟩ := acct_rd hr
  refine ⟨a, vh, vc, vs, vl, ?_, ?_, ⟨h1, h6, fun x hx => (h7 x hx).1, h10, h12, h14, fun x hx => ⟨(h15 x hx).1, (h15 x hx).2.1, (h15 x hx).2.2.1⟩⟩⟩
  · have hcs' : cs.toList = aCells a vh vc vs vl := hcs
    have : cs = (aCells a vh vc vs vl).toArray := by rw [← hcs']
    rw [this]; rfl
  · exact acct_rd_of q1 q2 q3 q4
end Go.Proofs.YtpeeagkfhdeagaaGreatDoor
/- The row's last step for a law that answers true and leaves all that stood before as it was, whatever its arguments' types. -/
set_option linter.unusedVariables false
namespace Go.Proofs.YtpeeagkfhdeagaaGreatDoor
open Go.ChangeShapes Go.WideShapes Go.ChangeAt Go.RowKit

section
variable {H : Type} {enc : TypeId × Value → H} {P : Program}
/-- every type can be read -/
def allRowed (P : Program) (ts : List TypeId) : Bool := ts.all fun t => P.readableRec t && decide (t < P.types.size)
set_option maxRecDepth 100000 in
theorem trodAll_below (hl : laidOutB P = true) {W W' : World} (hb : Below W.heap.size W W') :
    ∀ {ts : List TypeId} {vs : List Value} {ds : List (DataW H)} {ps : List MemPlace}, allRowed P ts = true → DataW.TrodAll enc P W 0 (fun _ => true) true ts vs ds ps → (∀ x ∈ ps, x.block < W.heap.size) →
      DataW.TrodAll enc P W' 0 (fun b => decide (b < W.heap.size)) true ts vs ds ps
  | [], vs, ds, ps, _, h, _ => by
    obtain ⟨rfl, rfl, rfl⟩ := trodAll_nil h
    exact trodAll_mk0
  | t :: ts, vs, ds, ps, hr, h, hlt => by
    obtain ⟨v0, vs0, d0, ds0, p0, q0, rfl, rfl, rfl, h0, r0⟩ := trodAll_cons h
    simp only [allRowed, List.all_cons, Bool.and_eq_true, decide_eq_true_eq] at hr
    exact trodAll_cons_mk (Below.trod hl hr.1.1 hr.1.2 h0 hb (fun x hx => hlt x (by simp [hx]))) (trodAll_below hl hb (by simpa [allRowed] using hr.2) r0 (fun x hx => hlt x (by simp [hx])))

set_option maxRecDepth 100000 in
theorem post_true {f : Func} {s : ChangeSpec} {apart fresh handsOn : Bool} {W W' : World} {args : Array Value} {ds gs : List (DataW H)} {before pv : List MemPlace} {tb : TypeId}
    (hl : laidOutB P = true) (hr : allRowed P f.params.toList = true) (hW : DataW.Whole enc P f.params.toList s.vars apart W args.toList ds gs before)
    (hfn : s.fn H (ds ++ gs) = { results := [.lit (.bool true)], args := ds, vars := gs }) (ht : f.resultTypes = #[tb]) (hu : P.underlying tb = some .bool)
    (hb : Below W.heap.size W W') (hvars : DataW.TrodVars enc P W' (fun b => decide (b < W.heap.size)) s.vars gs pv) :
    s.post enc P f apart fresh handsOn false W args (.bool true) W' := by
  have hW' := hW
  obtain ⟨p, q, hA, hV, rfl, _, _⟩ := hW
  have hlt := hW'.lt
  refine ⟨ds, gs, p ++ q, [], p, pv, hW', ?_, ?_, ?_, World.keptBut_mono (fun x hx => ?_) (hb.frame (fun _ => False)), fun h => by cases h⟩
  · rw [hfn, ht]
    exact trodAll_cons_mk (shut_bool hu true) trodAll_mk0
  · rw [hfn]
    exact trodAll_below hl hb hr hA (fun x hx => hlt x (by simp [hx]))
  · rw [hfn]
    exact hvars
  · exact hx.elim
end
end Go.Proofs.YtpeeagkfhdeagaaGreatDoor
/- All parts that the laws of this seat use; no conditions. -/
namespace Go.Proofs.YtpeeagkfhdeagaaGreatDoor
end Go.Proofs.YtpeeagkfhdeagaaGreatDoor
