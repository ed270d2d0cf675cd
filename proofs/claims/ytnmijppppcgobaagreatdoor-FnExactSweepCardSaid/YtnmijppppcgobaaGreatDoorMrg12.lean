/- Sweep of the program; no conditions but the library's handle. -/
import Derived.Test.YtnmijppppcgobaaGreatDoorMrg8
import Derived.Test.YtnmijppppcgobaaGreatDoorMrg10
import Derived.Test.YtnmijppppcgobaaGreatDoorMrg5
set_option linter.unusedVariables false
namespace Go.Proofs.YtnmijppppcgobaaGreatDoor
open Go.ChangeShapes Go.WideShapes Go.ChangeAt Go.RowKit

set_option maxRecDepth 100000 in
set_option maxHeartbeats 16000000 in
theorem implSweep_any (hi : Nat) (vh vc vs vl : Value) (a : AcctD) (now : Int) (w : World) (hg : Handle w) (hz : acctSmall 1048576 a) (hbig : acctBig a) (h : AcctR.rd hi w (aCells a vh vc vs vl) a) (hh : hi ≤ w.heap.size) :
    Calls Tryz.prog 47 #[.agg #[.string (aId a), .int .i64 (aLim a), .int .i64 (aPos a), .int .i64 (aMost a), .int .i64 (aSum a), vh, .int .i64 (aR a).1, .int .i64 (aR a).2.1, vc, vs, vl], .int .i64 now] w (acctResCI (sweepL a now).1 (sweepL a now).2 w) := by
  have HST : Hid (∀ W, Below w.heap.size w W → Calls Tryz.prog 56 #[.agg #[.string (aId a), .int .i64 (aLim a), .int .i64 (aPos a), .int .i64 (aMost a), .int .i64 (aSum a), vh, .int .i64 (aR a).1, .int .i64 (aR a).2.1, vc, vs, vl], .int .i64 now] W (chkRes (kState a now) W)) := Lib.hid (fun W hW => implStateCheck_any hi vh vc vs vl a now W (hg.below hW (Nat.le_refl _)) hz hbig (Rep.below (R := AcctR) h hW hh) (Nat.le_trans hh hW.size))
  have HSW := Lib.hid (fun W (hW : Below w.heap.size w W) => implAcctSwept_any hi vh vc vs vl a now W (hg.below hW (Nat.le_refl _)) hz hbig (Rep.below (R := AcctR) h hW hh) (Nat.le_trans hh hW.size))
  have HCO := Lib.hid (sweep_codes a now)
  have HSZ := Lib.hid (swept_small hz now)
  have HSB := Lib.hid (swept_big hbig now)
  obtain ⟨xh, xc, xs, xl, hcs, r1, r2, r3, r4⟩ := acct_rd h
  simp only [aCells, List.cons.injEq, and_true, true_and] at hcs
  obtain ⟨rfl, rfl, rfl, rfl⟩ := hcs
  obtain ⟨AH, cH, rfl, -⟩ := Rep.slice_form r1
  obtain ⟨AL, cL, rfl, -⟩ := Rep.slice_form r4
  obtain ⟨AC, cC, rfl, -⟩ := r2.form
  obtain ⟨AS, cS, rfl, -⟩ := r3.form
  clear h r1 r2 r3 r4 hz hbig
  generalize kState a now = k0 at HST HCO
  generalize acctSwept a now = sw at HSW HCO HSZ HSB
  generalize sweepL a now = res at HCO ⊢
  obtain ⟨id, lim, pos, most, sum, hs, ⟨sp, hd, cs, ss⟩, sl⟩ := a
  simp only [aId, aLim, aPos, aMost, aSum, aH, aS] at HST HSW ⊢
  have HG := Lib.hid hg
  clear hg
  go_enter Tryz.func47, Tryz.ntmps47
  go_upto_region 1 with fail
  obtain ⟨w0, hW⟩ : ∃ w0, w0 = ((w.alloc (.cells #[.string id, .int .i64 lim, .int .i64 pos, .int .i64 most, .int .i64 sum, .slice AH hs.length cH, .int .i64 sp, .int .i64 hd, .slice AC cs.length cC, .slice AS ss.length cS, .slice AL sl.length cL] 29)).alloc (.cells #[.string ⟨#[]⟩, .int .i64 0, .int .i64 0, .int .i64 0, .int .i64 0, .slice none 0 0, .int .i64 0, .int .i64 0, .slice none 0 0, .slice none 0 0, .slice none 0 0] 29)) := ⟨_, rfl⟩
  have b0 : bk w0 (w.heap.size) 29 [.string id, .int .i64 lim, .int .i64 pos, .int .i64 most, .int .i64 sum, .slice AH hs.length cH, .int .i64 sp, .int .i64 hd, .slice AC cs.length cC, .slice AS ss.length cS, .slice AL sl.length cL] := by rw [hW]; have h0 := bk.new (w) 29 [.string id, .int .i64 lim, .int .i64 pos, .int .i64 most, .int .i64 sum, .slice AH hs.length cH, .int .i64 sp, .int .i64 hd, .slice AC cs.length cC, .slice AS ss.length cS, .slice AL sl.length cL]; have h1 := (bk.alloc h0 (.cells #[.string ⟨#[]⟩, .int .i64 0, .int .i64 0, .int .i64 0, .int .i64 0, .slice none 0 0, .int .i64 0, .int .i64 0, .slice none 0 0, .slice none 0 0, .slice none 0 0] 29)); simpa using h1
  have b1 : bk w0 (w.heap.size + 1) 29 [.string ⟨#[]⟩, .int .i64 0, .int .i64 0, .int .i64 0, .int .i64 0, .slice none 0 0, .int .i64 0, .int .i64 0, .slice none 0 0, .slice none 0 0, .slice none 0 0] := by rw [hW]; have h0 := bk.new ((w.alloc (.cells #[.string id, .int .i64 lim, .int .i64 pos, .int .i64 most, .int .i64 sum, .slice AH hs.length cH, .int .i64 sp, .int .i64 hd, .slice AC cs.length cC, .slice AS ss.length cS, .slice AL sl.length cL] 29))) 29 [.string ⟨#[]⟩, .int .i64 0, .int .i64 0, .int .i64 0, .int .i64 0, .slice none 0 0, .int .i64 0, .int .i64 0, .slice none 0 0, .slice none 0 0, .slice none 0 0]; have h1 := h0; simpa using h1
  have HB : Hid (Below w.heap.size w w0) := Lib.hid (by rw [hW]; exact (((Below.refl w.heap.size w).alloc (Nat.le_refl _) _).alloc (by simp <;> omega) _))
  have z0 : w.heap.size + 2 ≤ w0.heap.size := by rw [hW]; simp
  rw [← hW]
  clear hW
  have B0 := Lib.hid b0
  have B1 := Lib.hid b1
  clear b0 b1
  obtain ⟨⟨p0, p1, p2, p3, p4, p5, p6, p7, p8, p9, p10⟩, -⟩ := B0.out.eleven
  go_wp2_with fail
  refine (HST.out w0 HB.out).mono ?_
  rintro e w1 ⟨gg0, ll0, rfl, hc0, hb⟩
  have z1 := hb.size
  replace B0 := Lib.hid (B0.out.below hb (by omega))
  replace B1 := Lib.hid (B1.out.below hb (by omega))
  replace HB : Hid (Below w.heap.size w w1) := Lib.hid (HB.out.trans (hb.mono (by omega)))
  clear hb p0 p1 p2 p3 p4 p5 p6 p7 p8 p9 p10
  go_wp2_with fail
  refine (implDecideRow_any [(gg0, ll0, k0)] [k0] _ _ w1 rfl (Nat.le_of_ble_eq_true rfl) (by intro x hx; rw [List.mem_singleton] at hx; subst hx; exact hc0)).mono ?_
  rintro e w2 ⟨rfl, hb⟩
  have z2 := hb.size
  replace B0 := Lib.hid (B0.out.below hb (by omega))
  replace B1 := Lib.hid (B1.out.below hb (by omega))
  replace HB : Hid (Below w.heap.size w w2) := Lib.hid (HB.out.trans (hb.mono (by omega)))
  clear hb
  clear hc0 HST HSZ HSB HG
  generalize firstC [k0] = kk at HCO ⊢
  by_cases h0 : kk = 0
  rotate_left
  · have HD : Hid (res = (acctNil, kk)) := Lib.hid (by obtain ⟨q1, q2, q3⟩ := HCO.out; exact Prod.ext (q2 h0) q1.symm)
    clear HCO B0 HSW
    obtain ⟨⟨r0, r1, r2, r3, r4, r5, r6, r7, r8, r9, r10⟩, g0, g1, g2, g3, g4, g5, g6, g7, g8, g9, g10⟩ := B1.out.eleven
    go_wp2
    refine bodyPost_ret (v := .tuple #[.agg #[.string ⟨#[]⟩, .int .i64 0, .int .i64 0, .int .i64 0, .int .i64 0, .slice none 0 0, .int .i64 0, .int .i64 0, .slice none 0 0, .slice none 0 0, .slice none 0 0], .int .i64 kk]) (by simp [results, Tryz.results47, go_sem, r0, r1, r2, r3, r4, r5, r6, r7, r8, r9, r10]) rfl ?_
    have ht := (((((((((((Turned.refl (w.heap.size + 1) ((w.heap.size + 1 + 1)) w2).set (b := w.heap.size + 1) 0 (.string ⟨#[]⟩) (by omega) (by omega)).set (b := w.heap.size + 1) 1 (.int .i64 0) (by omega) (by omega)).set (b := w.heap.size + 1) 2 (.int .i64 0) (by omega) (by omega)).set (b := w.heap.size + 1) 3 (.int .i64 0) (by omega) (by omega)).set (b := w.heap.size + 1) 4 (.int .i64 0) (by omega) (by omega)).set (b := w.heap.size + 1) 5 (.slice none 0 0) (by omega) (by omega)).set (b := w.heap.size + 1) 6 (.int .i64 0) (by omega) (by omega)).set (b := w.heap.size + 1) 7 (.int .i64 0) (by omega) (by omega)).set (b := w.heap.size + 1) 8 (.slice none 0 0) (by omega) (by omega)).set (b := w.heap.size + 1) 9 (.slice none 0 0) (by omega) (by omega)).set (b := w.heap.size + 1) 10 (.slice none 0 0) (by omega) (by omega)
    have hsz2 := ht.size
    rw [HD.out]
    exact ⟨_, _, _, _, rfl, acctI_zero _ _ _ (by omega), HB.out.trans (ht.below (by omega) (by omega))⟩
  subst h0
  have HD : Hid (res = (sw, 0)) := Lib.hid (by obtain ⟨q1, q2, q3⟩ := HCO.out; exact Prod.ext (q3 rfl) q1.symm)
  clear HCO
  obtain ⟨⟨p0, p1, p2, p3, p4, p5, p6, p7, p8, p9, p10⟩, -⟩ := B0.out.eleven
  go_wp2_with fail
  refine (HSW.out w2 HB.out).mono ?_
  rintro e w3 ⟨vh2, vc2, vs2, vl2, rfl, hm, hb⟩
  have z3 := hb.size
  replace B0 := Lib.hid (B0.out.below hb (by omega))
  replace B1 := Lib.hid (B1.out.below hb (by omega))
  replace HB : Hid (Below w.heap.size w w3) := Lib.hid (HB.out.trans (hb.mono (by omega)))
  clear hb p0 p1 p2 p3 p4 p5 p6 p7 p8 p9 p10
  obtain ⟨xh, xc, xs, xl, hcs, r1, r2, r3, r4⟩ := acct_rd hm.mine.rd
  simp only [aCells, List.cons.injEq, and_true, true_and] at hcs
  obtain ⟨rfl, rfl, rfl, rfl⟩ := hcs
  obtain ⟨AH2, cH2, rfl, -⟩ := Rep.slice_form r1
  obtain ⟨AL2, cL2, rfl, -⟩ := Rep.slice_form r4
  obtain ⟨AC2, cC2, rfl, -⟩ := r2.form
  obtain ⟨AS2, cS2, rfl, -⟩ := r3.form
  obtain ⟨id2, lim2, pos2, most2, sum2, hs2, ⟨sp2, hd2, cs2, ss2⟩, sl2⟩ := sw
  simp only [aId, aLim, aPos, aMost, aSum, aH, aS] at hm ⊢
  have HM := Lib.hid hm
  clear hm r1 r2 r3 r4 HSW B0
  obtain ⟨⟨r0, r1, r2, r3, r4, r5, r6, r7, r8, r9, r10⟩, g0, g1, g2, g3, g4, g5, g6, g7, g8, g9, g10⟩ := B1.out.eleven
  go_wp2
  refine bodyPost_ret (v := .tuple #[.agg #[.string id2, .int .i64 lim2, .int .i64 pos2, .int .i64 most2, .int .i64 sum2, .slice AH2 hs2.length cH2, .int .i64 sp2, .int .i64 hd2, .slice AC2 cs2.length cC2, .slice AS2 ss2.length cS2, .slice AL2 sl2.length cL2], .int .i64 0]) (by simp [results, Tryz.results47, go_sem, r0, r1, r2, r3, r4, r5, r6, r7, r8, r9, r10]) rfl ?_
  have ht := (((((((((((Turned.refl (w.heap.size + 1) ((w.heap.size + 1 + 1)) w3).set (b := w.heap.size + 1) 0 (.string id2) (by omega) (by omega)).set (b := w.heap.size + 1) 1 (.int .i64 lim2) (by omega) (by omega)).set (b := w.heap.size + 1) 2 (.int .i64 pos2) (by omega) (by omega)).set (b := w.heap.size + 1) 3 (.int .i64 most2) (by omega) (by omega)).set (b := w.heap.size + 1) 4 (.int .i64 sum2) (by omega) (by omega)).set (b := w.heap.size + 1) 5 (.slice AH2 hs2.length cH2) (by omega) (by omega)).set (b := w.heap.size + 1) 6 (.int .i64 sp2) (by omega) (by omega)).set (b := w.heap.size + 1) 7 (.int .i64 hd2) (by omega) (by omega)).set (b := w.heap.size + 1) 8 (.slice AC2 cs2.length cC2) (by omega) (by omega)).set (b := w.heap.size + 1) 9 (.slice AS2 ss2.length cS2) (by omega) (by omega)).set (b := w.heap.size + 1) 10 (.slice AL2 sl2.length cL2) (by omega) (by omega)
  have hsz2 := ht.size
  rw [HD.out]
  exact ⟨_, _, _, _, rfl, (HM.out.turned ht (.inr (by omega)) (by omega)).mono (by omega) (by omega), HB.out.trans (ht.below (by omega) (by omega))⟩
end Go.Proofs.YtnmijppppcgobaaGreatDoor
set_option linter.unusedVariables false
namespace Go.Proofs.YtnmijppppcgobaaGreatDoor
open Go.ChangeShapes Go.WideShapes Go.ChangeAt Go.RowKit

set_option maxRecDepth 100000 in
set_option maxHeartbeats 16000000 in
theorem specSweep_any (hi : Nat) (vh vc vs vl : Value) (a : AcctD) (now : Int) (w : World) (hz : acctSmall 1048576 a) (hbig : acctBig a) (h : AcctR.rd hi w (aCells a vh vc vs vl) a) (hh : hi ≤ w.heap.size) :
    Calls Tryz.prog 46 #[.agg #[.string (aId a), .int .i64 (aLim a), .int .i64 (aPos a), .int .i64 (aMost a), .int .i64 (aSum a), vh, .int .i64 (aR a).1, .int .i64 (aR a).2.1, vc, vs, vl], .int .i64 now] w (acctResC (sweepL a now).1 (sweepL a now).2 w) := by
  have HOK := Lib.hid (fun W (hW : Below w.heap.size w W) => specAcctOk_any hi vh vc vs vl a W hz hbig (Rep.below (R := AcctR) h hW hh) (Nat.le_trans hh hW.size))
  have HTM := Lib.hid (fun W => specTime_any now W)
  have HSW := Lib.hid (fun W (hW : Below w.heap.size w W) => specAcctSwept_any hi vh vc vs vl a now W hz hbig (Rep.below (R := AcctR) h hW hh) (Nat.le_trans hh hW.size))
  have HD : Hid (sweepL a now = if (acctOk a && timeB now) = false then (acctNil, 1) else (acctSwept a now, 0)) := Lib.hid rfl
  obtain ⟨xh, xc, xs, xl, hcs, r1, r2, r3, r4⟩ := acct_rd h
  simp only [aCells, List.cons.injEq, and_true, true_and] at hcs
  obtain ⟨rfl, rfl, rfl, rfl⟩ := hcs
  obtain ⟨AH, cH, rfl, -⟩ := Rep.slice_form r1
  obtain ⟨AL, cL, rfl, -⟩ := Rep.slice_form r4
  obtain ⟨AC, cC, rfl, -⟩ := r2.form
  obtain ⟨AS, cS, rfl, -⟩ := r3.form
  clear h r1 r2 r3 r4 hz hbig
  generalize acctOk a = ok at HOK HD
  generalize timeB now = tm at HTM HD
  generalize sweepL a now = res at HD ⊢
  generalize acctSwept a now = sw at HSW HD
  obtain ⟨id, lim, pos, most, sum, hs, ⟨sp, hd, cs, ss⟩, sl⟩ := a
  simp only [aId, aLim, aPos, aMost, aSum, aH, aS] at HOK HSW
  go_enter Tryz.func46, Tryz.ntmps46
  go_upto_region 1 with fail
  obtain ⟨w0, hW⟩ : ∃ w0, w0 = ((w.alloc (.cells #[.string id, .int .i64 lim, .int .i64 pos, .int .i64 most, .int .i64 sum, .slice AH hs.length cH, .int .i64 sp, .int .i64 hd, .slice AC cs.length cC, .slice AS ss.length cS, .slice AL sl.length cL] 29)).alloc (.cells #[.string ⟨#[]⟩, .int .i64 0, .int .i64 0, .int .i64 0, .int .i64 0, .slice none 0 0, .int .i64 0, .int .i64 0, .slice none 0 0, .slice none 0 0, .slice none 0 0] 29)) := ⟨_, rfl⟩
  have b0 : bk w0 (w.heap.size) 29 [.string id, .int .i64 lim, .int .i64 pos, .int .i64 most, .int .i64 sum, .slice AH hs.length cH, .int .i64 sp, .int .i64 hd, .slice AC cs.length cC, .slice AS ss.length cS, .slice AL sl.length cL] := by rw [hW]; have h0 := bk.new (w) 29 [.string id, .int .i64 lim, .int .i64 pos, .int .i64 most, .int .i64 sum, .slice AH hs.length cH, .int .i64 sp, .int .i64 hd, .slice AC cs.length cC, .slice AS ss.length cS, .slice AL sl.length cL]; have h1 := h0.alloc (.cells #[.string ⟨#[]⟩, .int .i64 0, .int .i64 0, .int .i64 0, .int .i64 0, .slice none 0 0, .int .i64 0, .int .i64 0, .slice none 0 0, .slice none 0 0, .slice none 0 0] 29); simpa using h1
  have b1 : bk w0 (w.heap.size + 1) 29 [.string ⟨#[]⟩, .int .i64 0, .int .i64 0, .int .i64 0, .int .i64 0, .slice none 0 0, .int .i64 0, .int .i64 0, .slice none 0 0, .slice none 0 0, .slice none 0 0] := by rw [hW]; have h0 := bk.new ((w.alloc (.cells #[.string id, .int .i64 lim, .int .i64 pos, .int .i64 most, .int .i64 sum, .slice AH hs.length cH, .int .i64 sp, .int .i64 hd, .slice AC cs.length cC, .slice AS ss.length cS, .slice AL sl.length cL] 29))) 29 [.string ⟨#[]⟩, .int .i64 0, .int .i64 0, .int .i64 0, .int .i64 0, .slice none 0 0, .int .i64 0, .int .i64 0, .slice none 0 0, .slice none 0 0, .slice none 0 0]; have h1 := h0; simpa using h1
  have HB : Hid (Below w.heap.size w w0) := Lib.hid (by rw [hW]; exact (((Below.refl w.heap.size w).alloc (Nat.le_refl _) _).alloc (by simp <;> omega) _))
  have z0 : w.heap.size + 2 ≤ w0.heap.size := by rw [hW]; simp
  rw [← hW]
  clear hW
  have B0 := Lib.hid b0
  have B1 := Lib.hid b1
  clear b0 b1
  obtain ⟨⟨p0, p1, p2, p3, p4, p5, p6, p7, p8, p9, p10⟩, -⟩ := B0.out.eleven
  go_wp2_with fail
  refine (HOK.out w0 HB.out).mono ?_
  rintro e w1 ⟨rfl, hb⟩
  have z1 := hb.size
  replace B0 := Lib.hid (B0.out.below hb (by omega))
  replace B1 := Lib.hid (B1.out.below hb (by omega))
  replace HB : Hid (Below w.heap.size w w1) := Lib.hid (HB.out.trans (hb.mono (by omega)))
  clear hb HOK p0 p1 p2 p3 p4 p5 p6 p7 p8 p9 p10
  cases ok
  · replace HD : Hid (res = (acctNil, 1)) := Lib.hid (by rw [HD.out]; rfl)
    clear B0 HSW HTM
    obtain ⟨⟨r0, r1, r2, r3, r4, r5, r6, r7, r8, r9, r10⟩, g0, g1, g2, g3, g4, g5, g6, g7, g8, g9, g10⟩ := B1.out.eleven
    go_wp2
    refine bodyPost_ret (v := .tuple #[.agg #[.string ⟨#[]⟩, .int .i64 0, .int .i64 0, .int .i64 0, .int .i64 0, .slice none 0 0, .int .i64 0, .int .i64 0, .slice none 0 0, .slice none 0 0, .slice none 0 0], .int .i64 1]) (by simp [results, Tryz.results46, go_sem, r0, r1, r2, r3, r4, r5, r6, r7, r8, r9, r10]) rfl ?_
    have ht := (((((((((((Turned.refl w.heap.size (w.heap.size + 2) w1).set (b := w.heap.size + 1) 0 (.string ⟨#[]⟩) (by omega) (by omega)).set (b := w.heap.size + 1) 1 (.int .i64 0) (by omega) (by omega)).set (b := w.heap.size + 1) 2 (.int .i64 0) (by omega) (by omega)).set (b := w.heap.size + 1) 3 (.int .i64 0) (by omega) (by omega)).set (b := w.heap.size + 1) 4 (.int .i64 0) (by omega) (by omega)).set (b := w.heap.size + 1) 5 (.slice none 0 0) (by omega) (by omega)).set (b := w.heap.size + 1) 6 (.int .i64 0) (by omega) (by omega)).set (b := w.heap.size + 1) 7 (.int .i64 0) (by omega) (by omega)).set (b := w.heap.size + 1) 8 (.slice none 0 0) (by omega) (by omega)).set (b := w.heap.size + 1) 9 (.slice none 0 0) (by omega) (by omega)).set (b := w.heap.size + 1) 10 (.slice none 0 0) (by omega) (by omega)
    have hsz := ht.size
    rw [HD.out]
    exact ⟨_, _, _, _, rfl, acct_mine_ivl (p1 := w.heap.size) (p2 := w.heap.size) (holds_none _ _ _) (ring_mine_of (nums_none _ _ _ _) (nums_none _ _ _ _) (by intro b h; cases h)) (slots_none _ _ _) (by omega) (by omega) (by omega), HB.out.trans (ht.below (by omega) (by omega))⟩
  go_wp2_with fail
  refine (HTM.out w1).mono ?_
  rintro e wx ⟨rfl, rfl⟩
  cases tm
  · replace HD : Hid (res = (acctNil, 1)) := Lib.hid (by rw [HD.out]; rfl)
    clear B0 HSW HTM
    obtain ⟨⟨r0, r1, r2, r3, r4, r5, r6, r7, r8, r9, r10⟩, g0, g1, g2, g3, g4, g5, g6, g7, g8, g9, g10⟩ := B1.out.eleven
    go_wp2
    refine bodyPost_ret (v := .tuple #[.agg #[.string ⟨#[]⟩, .int .i64 0, .int .i64 0, .int .i64 0, .int .i64 0, .slice none 0 0, .int .i64 0, .int .i64 0, .slice none 0 0, .slice none 0 0, .slice none 0 0], .int .i64 1]) (by simp [results, Tryz.results46, go_sem, r0, r1, r2, r3, r4, r5, r6, r7, r8, r9, r10]) rfl ?_
    have ht := (((((((((((Turned.refl w.heap.size (w.heap.size + 2) w1).set (b := w.heap.size + 1) 0 (.string ⟨#[]⟩) (by omega) (by omega)).set (b := w.heap.size + 1) 1 (.int .i64 0) (by omega) (by omega)).set (b := w.heap.size + 1) 2 (.int .i64 0) (by omega) (by omega)).set (b := w.heap.size + 1) 3 (.int .i64 0) (by omega) (by omega)).set (b := w.heap.size + 1) 4 (.int .i64 0) (by omega) (by omega)).set (b := w.heap.size + 1) 5 (.slice none 0 0) (by omega) (by omega)).set (b := w.heap.size + 1) 6 (.int .i64 0) (by omega) (by omega)).set (b := w.heap.size + 1) 7 (.int .i64 0) (by omega) (by omega)).set (b := w.heap.size + 1) 8 (.slice none 0 0) (by omega) (by omega)).set (b := w.heap.size + 1) 9 (.slice none 0 0) (by omega) (by omega)).set (b := w.heap.size + 1) 10 (.slice none 0 0) (by omega) (by omega)
    have hsz := ht.size
    rw [HD.out]
    exact ⟨_, _, _, _, rfl, acct_mine_ivl (p1 := w.heap.size) (p2 := w.heap.size) (holds_none _ _ _) (ring_mine_of (nums_none _ _ _ _) (nums_none _ _ _ _) (by intro b h; cases h)) (slots_none _ _ _) (by omega) (by omega) (by omega), HB.out.trans (ht.below (by omega) (by omega))⟩
  replace HD : Hid (res = (sw, 0)) := Lib.hid (by rw [HD.out]; rfl)
  obtain ⟨⟨p0, p1, p2, p3, p4, p5, p6, p7, p8, p9, p10⟩, -⟩ := B0.out.eleven
  go_wp2_with fail
  refine (HSW.out w1 HB.out).mono ?_
  rintro e w2 ⟨vh2, vc2, vs2, vl2, rfl, hm2, hb⟩
  have z2 := hb.size
  replace B0 := Lib.hid (B0.out.below hb (by omega))
  replace B1 := Lib.hid (B1.out.below hb (by omega))
  replace HB : Hid (Below w.heap.size w w2) := Lib.hid (HB.out.trans (hb.mono (by omega)))
  clear hb HSW p0 p1 p2 p3 p4 p5 p6 p7 p8 p9 p10
  obtain ⟨xh, xc, xs, xl, hcs, r1, r2, r3, r4⟩ := acct_rd hm2.rd
  simp only [aCells, List.cons.injEq, and_true, true_and] at hcs
  obtain ⟨rfl, rfl, rfl, rfl⟩ := hcs
  obtain ⟨AH2, cH2, rfl, -⟩ := Rep.slice_form r1
  obtain ⟨AL2, cL2, rfl, -⟩ := Rep.slice_form r4
  obtain ⟨AC2, cC2, rfl, -⟩ := r2.form
  obtain ⟨AS2, cS2, rfl, -⟩ := r3.form
  obtain ⟨id2, lim2, pos2, most2, sum2, hs2, ⟨sp2, hd2, cs2, ss2⟩, sl2⟩ := sw
  simp only [aId, aLim, aPos, aMost, aSum, aH, aS] at hm2 ⊢
  clear r1 r2 r3 r4
  obtain ⟨⟨r0, r1, r2, r3, r4, r5, r6, r7, r8, r9, r10⟩, g0, g1, g2, g3, g4, g5, g6, g7, g8, g9, g10⟩ := B1.out.eleven
  go_wp2
  refine bodyPost_ret (v := .tuple #[.agg #[.string id2, .int .i64 lim2, .int .i64 pos2, .int .i64 most2, .int .i64 sum2, .slice AH2 hs2.length cH2, .int .i64 sp2, .int .i64 hd2, .slice AC2 cs2.length cC2, .slice AS2 ss2.length cS2, .slice AL2 sl2.length cL2], .int .i64 0]) (by simp [results, Tryz.results46, go_sem, r0, r1, r2, r3, r4, r5, r6, r7, r8, r9, r10]) rfl ?_
  have ht := (((((((((((Turned.refl w.heap.size (w.heap.size + 2) w2).set (b := w.heap.size + 1) 0 (.string id2) (by omega) (by omega)).set (b := w.heap.size + 1) 1 (.int .i64 lim2) (by omega) (by omega)).set (b := w.heap.size + 1) 2 (.int .i64 pos2) (by omega) (by omega)).set (b := w.heap.size + 1) 3 (.int .i64 most2) (by omega) (by omega)).set (b := w.heap.size + 1) 4 (.int .i64 sum2) (by omega) (by omega)).set (b := w.heap.size + 1) 5 (.slice AH2 hs2.length cH2) (by omega) (by omega)).set (b := w.heap.size + 1) 6 (.int .i64 sp2) (by omega) (by omega)).set (b := w.heap.size + 1) 7 (.int .i64 hd2) (by omega) (by omega)).set (b := w.heap.size + 1) 8 (.slice AC2 cs2.length cC2) (by omega) (by omega)).set (b := w.heap.size + 1) 9 (.slice AS2 ss2.length cS2) (by omega) (by omega)).set (b := w.heap.size + 1) 10 (.slice AL2 sl2.length cL2) (by omega) (by omega)
  have hsz := ht.size
  rw [HD.out]
  exact ⟨_, _, _, _, rfl, (hm2.turned ht (.inr (by omega)) (by omega)).mono (by omega) (by omega), HB.out.trans (ht.below (by omega) (by omega))⟩
end Go.Proofs.YtnmijppppcgobaaGreatDoor
