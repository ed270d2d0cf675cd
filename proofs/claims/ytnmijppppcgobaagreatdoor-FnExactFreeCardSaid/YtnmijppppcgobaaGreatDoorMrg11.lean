/- Free of the reference; no conditions. -/
import Derived.Test.YtnmijppppcgobaaGreatDoorMrg10
import Derived.Test.YtnmijppppcgobaaGreatDoorMrg5
import Derived.Test.YtnmijppppcgobaaGreatDoorMrg3
set_option linter.unusedVariables false
namespace Go.Proofs.YtnmijppppcgobaaGreatDoor
open Go.ChangeShapes Go.WideShapes Go.ChangeAt Go.RowKit

set_option maxRecDepth 100000 in
set_option maxHeartbeats 8000000 in
theorem specFree_any (hi : Nat) (vh vc vs vl : Value) (a : AcctD) (s : ByteArray) (now : Int) (w : World) (hz : acctSmall 1048576 a) (hbig : acctBig a) (h : AcctR.rd hi w (aCells a vh vc vs vl) a) (hh : hi ≤ w.heap.size) (hs : s.size ≤ maxLen) :
    Calls Tryz.prog 44 #[.agg #[.string (aId a), .int .i64 (aLim a), .int .i64 (aPos a), .int .i64 (aMost a), .int .i64 (aSum a), vh, .int .i64 (aR a).1, .int .i64 (aR a).2.1, vc, vs, vl], .string s, .int .i64 now] w (acctResC (frL a s now).1 (frL a s now).2 w) := by
  have HFO := Lib.hid (fun W (hW : Below w.heap.size w W) => specForm_any hi vh vc vs vl a s now W hz hbig hs (Rep.below (R := AcctR) h hW hh) (Nat.le_trans hh hW.size))
  have HSW := Lib.hid (fun W (hW : Below w.heap.size w W) => specAcctSwept_any hi vh vc vs vl a now W hz hbig (Rep.below (R := AcctR) h hW hh) (Nat.le_trans hh hW.size))
  have HD : Hid (frL a s now = if formB a s now = false then (acctNil, 1) else frOn (acctSwept a now) s) := Lib.hid rfl
  have HFW : Hid (formB a s now = true → acctFew (acctSwept a now)) := Lib.hid fun hf => few_swept (acctOk_few (form_ok hf))
  obtain ⟨xh, xc, xs, xl, hcs, r1, r2, r3, r4⟩ := acct_rd h
  simp only [aCells, List.cons.injEq, and_true, true_and] at hcs
  obtain ⟨rfl, rfl, rfl, rfl⟩ := hcs
  obtain ⟨AH, cH, rfl, -⟩ := Rep.slice_form r1
  obtain ⟨AL, cL, rfl, -⟩ := Rep.slice_form r4
  obtain ⟨AC, cC, rfl, -⟩ := r2.form
  obtain ⟨AS, cS, rfl, -⟩ := r3.form
  clear h r1 r2 r3 r4 hz hbig
  generalize formB a s now = fo at HFO HD HFW
  generalize frL a s now = res at HD ⊢
  generalize acctSwept a now = sw at HSW HD HFW
  obtain ⟨id, lim, pos, most, sum, hs, ⟨sp, hd, cs, ss⟩, sl⟩ := a
  simp only [aId, aLim, aPos, aMost, aSum, aH, aS] at HFO HSW
  go_enter Tryz.func44, Tryz.ntmps44
  go_upto_region 1 with fail
  obtain ⟨W, hW⟩ : ∃ W, W = (w.alloc (.cells #[.string id, .int .i64 lim, .int .i64 pos, .int .i64 most, .int .i64 sum, .slice AH hs.length cH, .int .i64 sp, .int .i64 hd, .slice AC cs.length cC, .slice AS ss.length cS, .slice AL sl.length cL] 29)).alloc (.cells #[.string ⟨#[]⟩, .int .i64 0, .int .i64 0, .int .i64 0, .int .i64 0, .slice none 0 0, .int .i64 0, .int .i64 0, .slice none 0 0, .slice none 0 0, .slice none 0 0] 29) := ⟨_, rfl⟩
  have b0 : bk W w.heap.size 29 [.string id, .int .i64 lim, .int .i64 pos, .int .i64 most, .int .i64 sum, .slice AH hs.length cH, .int .i64 sp, .int .i64 hd, .slice AC cs.length cC, .slice AS ss.length cS, .slice AL sl.length cL] := by rw [hW]; exact (bk.new w _ _).alloc _
  have b1 : bk W (w.heap.size + 1) 29 [.string ⟨#[]⟩, .int .i64 0, .int .i64 0, .int .i64 0, .int .i64 0, .slice none 0 0, .int .i64 0, .int .i64 0, .slice none 0 0, .slice none 0 0, .slice none 0 0] := by rw [hW]; have := bk.new (w.alloc (.cells #[.string id, .int .i64 lim, .int .i64 pos, .int .i64 most, .int .i64 sum, .slice AH hs.length cH, .int .i64 sp, .int .i64 hd, .slice AC cs.length cC, .slice AS ss.length cS, .slice AL sl.length cL] 29)) 29 [.string ⟨#[]⟩, .int .i64 0, .int .i64 0, .int .i64 0, .int .i64 0, .slice none 0 0, .int .i64 0, .int .i64 0, .slice none 0 0, .slice none 0 0, .slice none 0 0]; simpa using this
  have HB0 : Hid (Below w.heap.size w W) := Lib.hid (by rw [hW]; exact ((Below.refl _ _).alloc (Nat.le_refl _) _).alloc (by simp) _)
  have z0 : w.heap.size + 2 ≤ W.heap.size := by rw [hW]; simp
  rw [← hW]
  clear hW
  have B0 := Lib.hid b0
  have B1 := Lib.hid b1
  obtain ⟨⟨p0, p1, p2, p3, p4, p5, p6, p7, p8, p9, p10⟩, -⟩ := b0.eleven
  clear b0 b1
  go_wp2_with fail
  refine (HFO.out W HB0.out).mono ?_
  rintro e w1 ⟨rfl, hb1⟩
  have z1 := hb1.size
  have C0 := Lib.hid (B0.out.below hb1 (by omega))
  have C1 := Lib.hid (B1.out.below hb1 (by omega))
  have HB1 : Hid (Below w.heap.size w w1) := Lib.hid (HB0.out.trans (hb1.mono (by omega)))
  clear hb1 B0 B1 HB0 HFO p0 p1 p2 p3 p4 p5 p6 p7 p8 p9 p10
  cases fo
  · replace HD : Hid (res = (acctNil, 1)) := Lib.hid (by rw [HD.out]; rfl)
    clear C0 HSW HFW
    obtain ⟨⟨r0, r1, r2, r3, r4, r5, r6, r7, r8, r9, r10⟩, g0, g1, g2, g3, g4, g5, g6, g7, g8, g9, g10⟩ := C1.out.eleven
    go_wp2
    refine bodyPost_ret (v := .tuple #[.agg #[.string ⟨#[]⟩, .int .i64 0, .int .i64 0, .int .i64 0, .int .i64 0, .slice none 0 0, .int .i64 0, .int .i64 0, .slice none 0 0, .slice none 0 0, .slice none 0 0], .int .i64 1]) (by simp [results, Tryz.results44, go_sem, r0, r1, r2, r3, r4, r5, r6, r7, r8, r9, r10]) rfl ?_
    have ht := (((((((((((Turned.refl w.heap.size (w.heap.size + 2) w1).set (b := w.heap.size + 1) 0 (.string ⟨#[]⟩) (by omega) (by omega)).set (b := w.heap.size + 1) 1 (.int .i64 0) (by omega) (by omega)).set (b := w.heap.size + 1) 2 (.int .i64 0) (by omega) (by omega)).set (b := w.heap.size + 1) 3 (.int .i64 0) (by omega) (by omega)).set (b := w.heap.size + 1) 4 (.int .i64 0) (by omega) (by omega)).set (b := w.heap.size + 1) 5 (.slice none 0 0) (by omega) (by omega)).set (b := w.heap.size + 1) 6 (.int .i64 0) (by omega) (by omega)).set (b := w.heap.size + 1) 7 (.int .i64 0) (by omega) (by omega)).set (b := w.heap.size + 1) 8 (.slice none 0 0) (by omega) (by omega)).set (b := w.heap.size + 1) 9 (.slice none 0 0) (by omega) (by omega)).set (b := w.heap.size + 1) 10 (.slice none 0 0) (by omega) (by omega)
    have hsz := ht.size
    rw [HD.out]
    exact ⟨_, _, _, _, rfl, acct_mine_ivl (p1 := w.heap.size) (p2 := w.heap.size) (holds_none _ _ _) (ring_mine_of (nums_none _ _ _ _) (nums_none _ _ _ _) (by intro b h; cases h)) (slots_none _ _ _) (by omega) (by omega) (by omega), HB1.out.trans (ht.below (by omega) (by omega))⟩
  replace HD : Hid (res = frOn sw s) := Lib.hid (by rw [HD.out]; rfl)
  have hfw := HFW.out rfl
  clear HFW
  obtain ⟨⟨p0, p1, p2, p3, p4, p5, p6, p7, p8, p9, p10⟩, -⟩ := C0.out.eleven
  go_wp2_with fail
  refine (HSW.out w1 HB1.out).mono ?_
  rintro e w2 ⟨vh2, vc2, vs2, vl2, rfl, hm2, hb2⟩
  obtain ⟨xh, xc, xs, xl, hcs, r1, r2, r3, r4⟩ := acct_rd hm2.rd
  simp only [aCells, List.cons.injEq, and_true, true_and] at hcs
  obtain ⟨rfl, rfl, rfl, rfl⟩ := hcs
  obtain ⟨AH2, cH2, rfl, -⟩ := Rep.slice_form r1
  obtain ⟨AL2, cL2, rfl, -⟩ := Rep.slice_form r4
  obtain ⟨AC2, cC2, rfl, -⟩ := r2.form
  obtain ⟨AS2, cS2, rfl, -⟩ := r3.form
  obtain ⟨id2, lim2, pos2, most2, sum2, hs2, ⟨sp2, hd2, cs2, ss2⟩, sl2⟩ := sw
  simp only [aId, aLim, aPos, aMost, aSum, aH, aS] at hm2 ⊢
  have hl4 : hs2.length ≤ 4 := hfw.h
  have z2 := hb2.size
  have D0 := Lib.hid (C0.out.below hb2 (by omega))
  have D1 := Lib.hid (C1.out.below hb2 (by omega))
  have HB2 : Hid (Below w.heap.size w w2) := Lib.hid (HB1.out.trans (hb2.mono (by omega)))
  have HM2 := Lib.hid hm2
  clear hb2 C0 C1 HB1 HSW hm2 r1 r2 r3 r4 p0 p1 p2 p3 p4 p5 p6 p7 p8 p9 p10
  go_upto_region 4 with fail
  obtain ⟨W3, hW3⟩ : ∃ W3, W3 = w2.alloc (.cells #[.string id2, .int .i64 lim2, .int .i64 pos2, .int .i64 most2, .int .i64 sum2, .slice AH2 hs2.length cH2, .int .i64 sp2, .int .i64 hd2, .slice AC2 cs2.length cC2, .slice AS2 ss2.length cS2, .slice AL2 sl2.length cL2] 29) := ⟨_, rfl⟩
  have b2 : bk W3 w2.heap.size 29 [.string id2, .int .i64 lim2, .int .i64 pos2, .int .i64 most2, .int .i64 sum2, .slice AH2 hs2.length cH2, .int .i64 sp2, .int .i64 hd2, .slice AC2 cs2.length cC2, .slice AS2 ss2.length cS2, .slice AL2 sl2.length cL2] := by rw [hW3]; exact bk.new w2 _ _
  have hb3 : Below w2.heap.size w2 W3 := by rw [hW3]; exact (Below.refl _ _).alloc (Nat.le_refl _) _
  rw [← hW3]
  clear hW3
  have z3 := b2.lt
  have E1 := Lib.hid (D1.out.below hb3 (by omega))
  have E2 := Lib.hid b2
  have HM3 := Lib.hid (HM2.out.below hb3 (Nat.le_refl _))
  have HB3 : Hid (Below w.heap.size w W3) := Lib.hid (HB2.out.trans (hb3.mono (by omega)))
  clear hb3 b2 D0 D1 HM2 HB2
  obtain ⟨⟨p0, p1, p2, p3, p4, p5, p6, p7, p8, p9, p10⟩, -⟩ := E2.out.eleven
  obtain ⟨xh, xc, xs, xl, hcs, r1, -, -, -⟩ := acct_rd HM3.out.rd
  simp only [aCells, List.cons.injEq, and_true, true_and] at hcs
  obtain ⟨rfl, -, -, -⟩ := hcs
  have HRD : Hid (HoldsR.rd w2.heap.size W3 [.slice AH2 hs2.length cH2] hs2) := Lib.hid r1
  have HHA := Lib.hid (specHoldAt_any w2.heap.size _ hs2 s W3 (by omega) r1 (by omega))
  clear r1
  have HFN : Hid (frOn (id2, lim2, pos2, most2, sum2, hs2, (sp2, hd2, cs2, ss2), sl2) s = if findH hs2 s < 0 then (acctNil, 5) else ((id2, lim2, pos2, most2, sum2, dropL hs2 s, (sp2, hd2, cs2, ss2), sl2), 0)) := Lib.hid rfl
  generalize findH hs2 s = at_ at HHA HFN
  go_wp2_with fail
  refine HHA.out.mono ?_
  rintro e w4 ⟨rfl, hb4⟩
  have z4 := hb4.size
  have F1 := Lib.hid (E1.out.below hb4 (by omega))
  have F2 := Lib.hid (E2.out.below hb4 (by omega))
  have HM4 := Lib.hid (HM3.out.below hb4 (by omega))
  have HRD4 : Hid (HoldsR.rd w2.heap.size w4 [.slice AH2 hs2.length cH2] hs2) := Lib.hid (Rep.below (R := HoldsR) HRD.out hb4 (by omega))
  have HB4 : Hid (Below w.heap.size w w4) := Lib.hid (HB3.out.trans (hb4.mono (by omega)))
  clear hb4 E1 E2 HM3 HRD HB3 HHA p0 p1 p2 p3 p4 p5 p6 p7 p8 p9 p10
  by_cases c1 : at_ < 0
  · replace HD : Hid (res = (acctNil, 5)) := Lib.hid (by rw [HD.out, HFN.out, if_pos c1])
    clear F2 HM4 HRD4
    obtain ⟨⟨r0, r1, r2, r3, r4, r5, r6, r7, r8, r9, r10⟩, g0, g1, g2, g3, g4, g5, g6, g7, g8, g9, g10⟩ := F1.out.eleven
    go_wp2
    refine bodyPost_ret (v := .tuple #[.agg #[.string ⟨#[]⟩, .int .i64 0, .int .i64 0, .int .i64 0, .int .i64 0, .slice none 0 0, .int .i64 0, .int .i64 0, .slice none 0 0, .slice none 0 0, .slice none 0 0], .int .i64 5]) (by simp [results, Tryz.results44, go_sem, r0, r1, r2, r3, r4, r5, r6, r7, r8, r9, r10]) rfl ?_
    have ht := (((((((((((Turned.refl w.heap.size (w.heap.size + 2) w4).set (b := w.heap.size + 1) 0 (.string ⟨#[]⟩) (by omega) (by omega)).set (b := w.heap.size + 1) 1 (.int .i64 0) (by omega) (by omega)).set (b := w.heap.size + 1) 2 (.int .i64 0) (by omega) (by omega)).set (b := w.heap.size + 1) 3 (.int .i64 0) (by omega) (by omega)).set (b := w.heap.size + 1) 4 (.int .i64 0) (by omega) (by omega)).set (b := w.heap.size + 1) 5 (.slice none 0 0) (by omega) (by omega)).set (b := w.heap.size + 1) 6 (.int .i64 0) (by omega) (by omega)).set (b := w.heap.size + 1) 7 (.int .i64 0) (by omega) (by omega)).set (b := w.heap.size + 1) 8 (.slice none 0 0) (by omega) (by omega)).set (b := w.heap.size + 1) 9 (.slice none 0 0) (by omega) (by omega)).set (b := w.heap.size + 1) 10 (.slice none 0 0) (by omega) (by omega)
    have hsz := ht.size
    rw [HD.out]
    exact ⟨_, _, _, _, rfl, acct_mine_ivl (p1 := w.heap.size) (p2 := w.heap.size) (holds_none _ _ _) (ring_mine_of (nums_none _ _ _ _) (nums_none _ _ _ _) (by intro b h; cases h)) (slots_none _ _ _) (by omega) (by omega) (by omega), HB4.out.trans (ht.below (by omega) (by omega))⟩
  replace HD : Hid (res = ((id2, lim2, pos2, most2, sum2, dropL hs2 s, (sp2, hd2, cs2, ss2), sl2), 0)) := Lib.hid (by rw [HD.out, HFN.out, if_neg c1])
  clear HFN
  obtain ⟨⟨p0, p1, p2, p3, p4, p5, p6, p7, p8, p9, p10⟩, -⟩ := F2.out.eleven
  have HDR := Lib.hid (specHoldDrop_any w2.heap.size _ hs2 s w4 (by omega) HRD4.out (by omega))
  generalize dropL hs2 s = ls at HDR HD
  go_wp2_with fail
  refine HDR.out.mono ?_
  rintro e w5 ⟨u, rfl, hu, hb5⟩
  obtain ⟨AN, cN, rfl, -⟩ := Rep.slice_form hu.rd
  have z5 := hb5.size
  have G1 := Lib.hid (F1.out.below hb5 (by omega))
  have G2 := Lib.hid (F2.out.below hb5 (by omega))
  have HM5 := Lib.hid (HM4.out.below hb5 (by omega))
  have HU5 := Lib.hid hu
  have HB5 : Hid (Below w.heap.size w w5) := Lib.hid (HB4.out.trans (hb5.mono (by omega)))
  clear hu hb5 HM4 HB4 HRD4 HDR F1 F2 p0 p1 p2 p3 p4 p5 p6 p7 p8 p9 p10
  obtain ⟨⟨p0, p1, p2, p3, p4, p5, p6, p7, p8, p9, p10⟩, f0, f1, f2, f3, f4, f5, f6, f7, f8, f9, f10⟩ := G2.out.eleven
  have hq := G2.out.set 5 (.slice AN ls.length cN)
  have ht5 := (Turned.refl w2.heap.size (w2.heap.size + 1) w5).set (b := w2.heap.size) 5 (.slice AN ls.length cN) (by omega) (by omega)
  go_upto_region 7 with fail
  obtain ⟨W6, hW6⟩ : ∃ W6, W6 = w5.setCell ⟨w2.heap.size, 5, none⟩ (.slice AN ls.length cN) := ⟨_, rfl⟩
  rw [← hW6] at hq ht5 ⊢
  clear hW6
  have z6 := ht5.size
  have HM6 := Lib.hid (swapH (HM5.out.turned ht5 (.inl (Nat.le_refl _)) (by omega)) ((HU5.out.turned ht5 (.inr (by omega)) (Nat.le_refl _)).mono (hi' := W6.heap.size) (by omega) (by omega)) (by omega) (by omega))
  have HB6 := Lib.hid (HB5.out.trans (ht5.below (B := w.heap.size) (by omega) (by omega)))
  have H1 := Lib.hid (G1.out.under ht5 (by omega))
  have H2 : Hid (bk W6 w2.heap.size 29 [.string id2, .int .i64 lim2, .int .i64 pos2, .int .i64 most2, .int .i64 sum2, .slice AN ls.length cN, .int .i64 sp2, .int .i64 hd2, .slice AC2 cs2.length cC2, .slice AS2 ss2.length cS2, .slice AL2 sl2.length cL2]) := Lib.hid hq
  clear hq ht5 HM5 HU5 HB5 G1 G2 p0 p1 p2 p3 p4 p5 p6 p7 p8 p9 p10 f0 f1 f2 f3 f4 f5 f6 f7 f8 f9 f10
  simp only [setH, aId, aLim, aPos, aMost, aSum, aR, aS] at HM6
  obtain ⟨⟨p0, p1, p2, p3, p4, p5, p6, p7, p8, p9, p10⟩, -⟩ := H2.out.eleven
  obtain ⟨⟨r0, r1, r2, r3, r4, r5, r6, r7, r8, r9, r10⟩, g0, g1, g2, g3, g4, g5, g6, g7, g8, g9, g10⟩ := H1.out.eleven
  go_wp2
  refine bodyPost_ret (v := .tuple #[.agg #[.string id2, .int .i64 lim2, .int .i64 pos2, .int .i64 most2, .int .i64 sum2, .slice AN ls.length cN, .int .i64 sp2, .int .i64 hd2, .slice AC2 cs2.length cC2, .slice AS2 ss2.length cS2, .slice AL2 sl2.length cL2], .int .i64 0]) (by simp [results, Tryz.results44, go_sem, r0, r1, r2, r3, r4, r5, r6, r7, r8, r9, r10]) rfl ?_
  have ht := (((((((((((Turned.refl w.heap.size (w.heap.size + 2) W6).set (b := w.heap.size + 1) 0 (.string id2) (by omega) (by omega)).set (b := w.heap.size + 1) 1 (.int .i64 lim2) (by omega) (by omega)).set (b := w.heap.size + 1) 2 (.int .i64 pos2) (by omega) (by omega)).set (b := w.heap.size + 1) 3 (.int .i64 most2) (by omega) (by omega)).set (b := w.heap.size + 1) 4 (.int .i64 sum2) (by omega) (by omega)).set (b := w.heap.size + 1) 5 (.slice AN ls.length cN) (by omega) (by omega)).set (b := w.heap.size + 1) 6 (.int .i64 sp2) (by omega) (by omega)).set (b := w.heap.size + 1) 7 (.int .i64 hd2) (by omega) (by omega)).set (b := w.heap.size + 1) 8 (.slice AC2 cs2.length cC2) (by omega) (by omega)).set (b := w.heap.size + 1) 9 (.slice AS2 ss2.length cS2) (by omega) (by omega)).set (b := w.heap.size + 1) 10 (.slice AL2 sl2.length cL2) (by omega) (by omega)
  have hsz := ht.size
  rw [HD.out]
  exact ⟨_, _, _, _, rfl, (HM6.out.turned ht (.inr (by omega)) (by omega)).mono (by omega) (by omega), HB6.out.trans (ht.below (by omega) (by omega))⟩
end Go.Proofs.YtnmijppppcgobaaGreatDoor
