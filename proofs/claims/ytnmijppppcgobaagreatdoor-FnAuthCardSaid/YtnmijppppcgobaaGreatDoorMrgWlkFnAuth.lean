/- The walk of FnAuth; conditions: those that it names. -/
import Derived.Test.YtnmijppppcgobaaGreatDoorMrg7
import Derived.Test.YtnmijppppcgobaaGreatDoorMrg13
import Derived.Test.YtnmijppppcgobaaGreatDoorMrg8
import Derived.Test.YtnmijppppcgobaaGreatDoorMrg20
import Derived.Stop.LaidErr
import Derived.LaidMore
import Derived.Stop.Joined
import Derived.SevenTiedAt
import Derived.WalkSmall
import Derived.LaidHandle
import Derived.Test.YtnmijppppcgobaaGreatDoorMrg21
import Derived.Test.YtnmijppppcgobaaGreatDoorMrg22
import Derived.Test.YtnmijppppcgobaaGreatDoorMrg5
import Derived.Deep.RegionHeld3
import Derived.Deep.DeepCutAuto
namespace Go.Proofs.YtnmijppppcgobaaGreatDoor.fnAuth
open Go.ChangeShapes Go.WideShapes Go.ChangeAt Go.RowKit
open Go.WideMaps Go.WideElems
open Go.ChangeMaps (open_string shut_string)
set_option linter.unusedVariables false

set_option maxRecDepth 100000 in
set_option maxHeartbeats 8000000 in
theorem walk (w : World) (p0 : Addr) (hc0 : w.cell? ⟨0, 0, none⟩ = some (.iface 266 (.pointer (some p0)))) (hh : w.cell? ⟨1, 0, none⟩ = some (.iface 230 (.agg #[.pointer (some ⟨6, 149, none⟩)]))) (a0 : Value) (s0 : ∃ ao len cap, a0 = .slice ao len cap) (w0 : readable w w.heap.size a0) :
    Calls Tryz.prog 4 #[a0] w fun e w' => e = .returned (.bool true) ∧ Below w.heap.size w w' := by
  obtain ⟨ao, len, cap, rfl⟩ := s0
  by_cases hbig : (1048576 : Int) < (len : Int)
  · go_enter Tryz.func4, Tryz.ntmps4
    go_wp2
    go_ret
    exact ⟨rfl, Below.refl _ _⟩
  have hlen : lenOf (.slice ao len cap) ≤ 1048576 := by show len ≤ 1048576; omega
  have HH : Hid (∀ w', Below w.heap.size w w' → Handle w') := Lib.hid fun w' h => Handle.below (w := w) hh h (Nat.le_refl _)
  clear hh
  have HR := Lib.hid w0
  clear w0
  go_enter Tryz.func4, Tryz.ntmps4
  have HB : Hid (Below w.heap.size w w) := Lib.hid (Below.refl _ _)
  go_wp2_with fail
  refine (makeAcct_any _ w ((HR.out.below HB.out).le HB.out.size) hlen).mono ?_
  rintro e w1 ⟨⟨id, lim, pos, most, sum, hs, ⟨sp, hd, cs, ss⟩, sl⟩, vh, vc, vs, vl, rfl, hok, hm, hb⟩
  have z1 := hb.size
  replace HB : Hid (Below w.heap.size w w1) := Lib.hid (HB.out.trans (hb.mono (by omega)))
  clear hb
  simp only [aId, aLim, aPos, aMost, aSum]
  obtain ⟨xh, xc, xs, xl, hcs, r1, r2, r3, r4⟩ := acct_rd hm.mine.rd
  simp only [aCells, List.cons.injEq, and_true, true_and] at hcs
  obtain ⟨rfl, rfl, rfl, rfl⟩ := hcs
  obtain ⟨AH, cH, rfl, -⟩ := Rep.slice_form r1
  obtain ⟨AL, cL, rfl, -⟩ := Rep.slice_form r4
  obtain ⟨AC, cC, rfl, -⟩ := r2.form
  obtain ⟨AS, cS, rfl, -⟩ := r3.form
  simp only [aH, aS] at hm ⊢
  have HOK : Hid (acctOk (id, lim, pos, most, sum, hs, (sp, hd, cs, ss), sl) = true) := Lib.hid hok
  have HFW := Lib.hid (acctOk_few hok)
  have HA := Lib.hid hm.mine.rd
  clear r1 r2 r3 r4 hok hm
  go_upto_region 4 with fail
  obtain ⟨w2, hW⟩ : ∃ V, V = w1.alloc (.cells #[.string id, .int .i64 lim, .int .i64 pos, .int .i64 most, .int .i64 sum, .slice AH hs.length cH, .int .i64 sp, .int .i64 hd, .slice AC cs.length cC, .slice AS ss.length cS, .slice AL sl.length cL] 29) := ⟨_, rfl⟩
  have bx : bk w2 w1.heap.size 29 [.string id, .int .i64 lim, .int .i64 pos, .int .i64 most, .int .i64 sum, .slice AH hs.length cH, .int .i64 sp, .int .i64 hd, .slice AC cs.length cC, .slice AS ss.length cS, .slice AL sl.length cL] := by rw [hW]; exact bk.new w1 _ _
  have hb : Below w1.heap.size w1 w2 := by rw [hW]; exact (Below.refl _ _).alloc (Nat.le_refl _) _
  rw [← hW]
  clear hW
  have z2 := bx.lt
  have y2 := hb.size
  replace HA := Lib.hid (Rep.below (R := AcctR) HA.out hb (by omega))
  replace HB : Hid (Below w.heap.size w w2) := Lib.hid (HB.out.trans (hb.mono (by omega)))
  have BA := Lib.hid bx
  clear hb bx
  go_wp2_with fail
  refine (makeHold_any _ w2 ((HR.out.below HB.out).le HB.out.size) hlen).mono ?_
  rintro e w3 ⟨s, n, ttl, now, rfl, ⟨hid, hsz, ⟨n0, n1⟩, ⟨ttl0, ttl1⟩, now0, now1⟩, hb⟩
  have z3 := hb.size
  replace HA := Lib.hid (Rep.below (R := AcctR) HA.out hb (by omega))
  replace BA := Lib.hid (BA.out.below hb (by omega))
  replace HB : Hid (Below w.heap.size w w3) := Lib.hid (HB.out.trans (hb.mono (by omega)))
  clear hb
  have HTM : Hid (timeB now = true) := Lib.hid (by unfold timeB inB; exact decide_eq_true (by omega))
  have hszm : s.size ≤ maxLen := by unfold maxLen; omega
  have HAF := Lib.hid (auth_facts HOK.out HTM.out hid (n := n) (ttl := ttl) n0 (by omega) ttl0 (by omega) (show now + ttl ≤ 1000000000 by omega))
  have hnu := acctOk_nums HOK.out
  simp only [aLim, aPos] at hnu
  have hdt : IntKind.i64.wrap (now + ttl) = now + ttl := IntWalk.i64_in _ (by omega)
  have HC := Lib.hid (implAuthorize_any w1.heap.size _ _ _ _ (id, lim, pos, most, sum, hs, (sp, hd, cs, ss), sl) s n ttl now w3 (HH.out _ HB.out) (few_small HFW.out) (few_big HFW.out) HA.out (by omega) hszm)
  simp only [aId, aLim, aPos, aMost, aSum] at HC
  have HFW1 := Lib.hid (few_auth (id, lim, pos, most, sum, hs, (sp, hd, cs, ss), sl) s n ttl now)
  obtain ⟨⟨⟨id1, lim1, pos1, most1, sum1, hs1, ⟨sp1, hd1, cs1, ss1⟩, sl1⟩, k1⟩, hr1⟩ : ∃ r, r = authL (id, lim, pos, most, sum, hs, (sp, hd, cs, ss), sl) s n ttl now := ⟨_, rfl⟩
  rw [← hr1] at HC HAF HFW1
  clear hr1
  obtain ⟨⟨p0, p1, p2, p3, p4, p5, p6, p7, p8, p9, p10⟩, -⟩ := BA.out.eleven
  go_wp2_with fail
  refine (HC.out).mono ?_
  rintro e w4 ⟨vh, vc, vs, vl, rfl, hm, hb⟩
  have z4 := hb.size
  replace HA := Lib.hid (Rep.below (R := AcctR) HA.out hb (by omega))
  replace BA := Lib.hid (BA.out.below hb (by omega))
  replace HB : Hid (Below w.heap.size w w4) := Lib.hid (HB.out.trans (hb.mono (by omega)))
  clear hb HC p0 p1 p2 p3 p4 p5 p6 p7 p8 p9 p10
  simp only [aId, aLim, aPos, aMost, aSum]
  obtain ⟨xh, xc, xs, xl, hcs, r1, r2, r3, r4⟩ := acct_rd hm.mine.rd
  simp only [aCells, List.cons.injEq, and_true, true_and] at hcs
  obtain ⟨rfl, rfl, rfl, rfl⟩ := hcs
  obtain ⟨AH1, cH1, rfl, -⟩ := Rep.slice_form r1
  obtain ⟨AL1, cL1, rfl, -⟩ := Rep.slice_form r4
  obtain ⟨AC1, cC1, rfl, -⟩ := r2.form
  obtain ⟨AS1, cS1, rfl, -⟩ := r3.form
  simp only [aH, aS]
  have HA1 := Lib.hid hm.mine.rd
  clear r1 r2 r3 r4 hm
  go_upto_region 6 with fail
  obtain ⟨w5, hW⟩ : ∃ V, V = w4.alloc (.cells #[.string id1, .int .i64 lim1, .int .i64 pos1, .int .i64 most1, .int .i64 sum1, .slice AH1 hs1.length cH1, .int .i64 sp1, .int .i64 hd1, .slice AC1 cs1.length cC1, .slice AS1 ss1.length cS1, .slice AL1 sl1.length cL1] 29) := ⟨_, rfl⟩
  have bx : bk w5 w4.heap.size 29 [.string id1, .int .i64 lim1, .int .i64 pos1, .int .i64 most1, .int .i64 sum1, .slice AH1 hs1.length cH1, .int .i64 sp1, .int .i64 hd1, .slice AC1 cs1.length cC1, .slice AS1 ss1.length cS1, .slice AL1 sl1.length cL1] := by rw [hW]; exact bk.new w4 _ _
  have hb : Below w4.heap.size w4 w5 := by rw [hW]; exact (Below.refl _ _).alloc (Nat.le_refl _) _
  rw [← hW]
  clear hW
  have z5 := bx.lt
  have y5 := hb.size
  replace HA := Lib.hid (Rep.below (R := AcctR) HA.out hb (by omega))
  replace BA := Lib.hid (BA.out.below hb (by omega))
  replace HA1 := Lib.hid (Rep.below (R := AcctR) HA1.out hb (by omega))
  replace HB : Hid (Below w.heap.size w w5) := Lib.hid (HB.out.trans (hb.mono (by omega)))
  have B8 := Lib.hid bx
  clear hb bx
  have HC := Lib.hid (implAcctSwept_any w1.heap.size _ _ _ _ (id, lim, pos, most, sum, hs, (sp, hd, cs, ss), sl) now w5 (HH.out _ HB.out) (few_small HFW.out) (few_big HFW.out) HA.out (by omega))
  simp only [aId, aLim, aPos, aMost, aSum] at HC
  have HFW5 := Lib.hid (few_swept (now := now) HFW.out)
  obtain ⟨⟨id5, lim5, pos5, most5, sum5, hs5, ⟨sp5, hd5, cs5, ss5⟩, sl5⟩, hr5⟩ : ∃ r, r = acctSwept (id, lim, pos, most, sum, hs, (sp, hd, cs, ss), sl) now := ⟨_, rfl⟩
  rw [← hr5] at HC HAF HFW5
  clear hr5
  obtain ⟨⟨p0, p1, p2, p3, p4, p5, p6, p7, p8, p9, p10⟩, -⟩ := BA.out.eleven
  go_wp2_with fail
  refine (HC.out).mono ?_
  rintro e w6 ⟨vh, vc, vs, vl, rfl, hm, hb⟩
  have z6 := hb.size
  replace HA := Lib.hid (Rep.below (R := AcctR) HA.out hb (by omega))
  replace BA := Lib.hid (BA.out.below hb (by omega))
  replace HA1 := Lib.hid (Rep.below (R := AcctR) HA1.out hb (by omega))
  replace B8 := Lib.hid (B8.out.below hb (by omega))
  replace HB : Hid (Below w.heap.size w w6) := Lib.hid (HB.out.trans (hb.mono (by omega)))
  clear hb HC p0 p1 p2 p3 p4 p5 p6 p7 p8 p9 p10
  simp only [aId, aLim, aPos, aMost, aSum]
  obtain ⟨xh, xc, xs, xl, hcs, r1, r2, r3, r4⟩ := acct_rd hm.mine.rd
  simp only [aCells, List.cons.injEq, and_true, true_and] at hcs
  obtain ⟨rfl, rfl, rfl, rfl⟩ := hcs
  obtain ⟨AH5, cH5, rfl, -⟩ := Rep.slice_form r1
  obtain ⟨AL5, cL5, rfl, -⟩ := Rep.slice_form r4
  obtain ⟨AC5, cC5, rfl, -⟩ := r2.form
  obtain ⟨AS5, cS5, rfl, -⟩ := r3.form
  simp only [aH, aS]
  have HA5 := Lib.hid hm.mine.rd
  clear r1 r2 r3 r4 hm
  go_upto_region 7 with fail
  obtain ⟨w7, hW⟩ : ∃ V, V = w6.alloc (.cells #[.string id5, .int .i64 lim5, .int .i64 pos5, .int .i64 most5, .int .i64 sum5, .slice AH5 hs5.length cH5, .int .i64 sp5, .int .i64 hd5, .slice AC5 cs5.length cC5, .slice AS5 ss5.length cS5, .slice AL5 sl5.length cL5] 29) := ⟨_, rfl⟩
  have bx : bk w7 w6.heap.size 29 [.string id5, .int .i64 lim5, .int .i64 pos5, .int .i64 most5, .int .i64 sum5, .slice AH5 hs5.length cH5, .int .i64 sp5, .int .i64 hd5, .slice AC5 cs5.length cC5, .slice AS5 ss5.length cS5, .slice AL5 sl5.length cL5] := by rw [hW]; exact bk.new w6 _ _
  have hb : Below w6.heap.size w6 w7 := by rw [hW]; exact (Below.refl _ _).alloc (Nat.le_refl _) _
  rw [← hW]
  clear hW
  have z7 := bx.lt
  have y7 := hb.size
  replace HA := Lib.hid (Rep.below (R := AcctR) HA.out hb (by omega))
  replace BA := Lib.hid (BA.out.below hb (by omega))
  replace HA1 := Lib.hid (Rep.below (R := AcctR) HA1.out hb (by omega))
  replace B8 := Lib.hid (B8.out.below hb (by omega))
  replace HA5 := Lib.hid (Rep.below (R := AcctR) HA5.out hb (by omega))
  replace HB : Hid (Below w.heap.size w w7) := Lib.hid (HB.out.trans (hb.mono (by omega)))
  have BS := Lib.hid bx
  clear hb bx
  simp only [aId, aH, aR, aMost, aSum, aPos] at HAF
  have HRM := Lib.hid (implRoom_any w1.heap.size _ _ _ _ (id, lim, pos, most, sum, hs, (sp, hd, cs, ss), sl) now w7 (HH.out _ HB.out) (few_small HFW.out) (few_big HFW.out) HA.out (by omega))
  simp only [aId, aLim, aPos, aMost, aSum] at HRM
  have hrr := room_eq HOK.out HTM.out
  have hsr := (sumH_range (holdsOk_sub (acctOk_iff.1 HOK.out).2.2.2.2.2.1 (live_sub hs now)))
  simp only [aLim, aPos, aH] at hrr
  obtain ⟨rm, hrm⟩ : ∃ r, r = roomOf (id, lim, pos, most, sum, hs, (sp, hd, cs, ss), sl) now := ⟨_, rfl⟩
  rw [← hrm] at HRM HAF hrr
  have hrn : IntKind.i64.wrap (rm - n) = rm - n := IntWalk.i64_in _ (by omega)
  clear hrm hrr hsr hnu
  obtain ⟨⟨p0, p1, p2, p3, p4, p5, p6, p7, p8, p9, p10⟩, -⟩ := BA.out.eleven
  go_wp2_with fail
  refine (HRM.out).mono ?_
  rintro e w8 ⟨rfl, hb⟩
  have z8 := hb.size
  replace HA := Lib.hid (Rep.below (R := AcctR) HA.out hb (by omega))
  replace BA := Lib.hid (BA.out.below hb (by omega))
  replace HA1 := Lib.hid (Rep.below (R := AcctR) HA1.out hb (by omega))
  replace B8 := Lib.hid (B8.out.below hb (by omega))
  replace HA5 := Lib.hid (Rep.below (R := AcctR) HA5.out hb (by omega))
  replace BS := Lib.hid (BS.out.below hb (by omega))
  replace HB : Hid (Below w.heap.size w w8) := Lib.hid (HB.out.trans (hb.mono (by omega)))
  clear hb HRM p0 p1 p2 p3 p4 p5 p6 p7 p8 p9 p10
  obtain ⟨xh, xc, xs, xl, hcs, y1, y2, y3, y4⟩ := acct_rd HA.out
  simp only [aCells, List.cons.injEq, and_true, true_and] at hcs
  obtain ⟨rfl, rfl, rfl, rfl⟩ := hcs
  simp only at y2 y3
  have HC := Lib.hid (implCount_any w1.heap.size _ _ (sp, hd, cs, ss) now w8 (HH.out _ HB.out) y2 y3 (by omega) (Nat.le_trans HFW.out.c (by omega)) (Nat.le_trans HFW.out.s (by omega)))
  clear y1 y2 y3 y4
  simp only at HC
  have hbrt := ring_total_nn (r := (sp, hd, cs, ss)) (now := now) false
  generalize ringTotal (sp, hd, cs, ss) now false = rt at HC HAF hbrt
  obtain ⟨⟨p0, p1, p2, p3, p4, p5, p6, p7, p8, p9, p10⟩, -⟩ := BA.out.eleven
  go_wp2_with fail
  refine (HC.out).mono ?_
  rintro e w9 ⟨rfl, hb⟩
  have z9 := hb.size
  replace HA := Lib.hid (Rep.below (R := AcctR) HA.out hb (by omega))
  replace BA := Lib.hid (BA.out.below hb (by omega))
  replace HA1 := Lib.hid (Rep.below (R := AcctR) HA1.out hb (by omega))
  replace B8 := Lib.hid (B8.out.below hb (by omega))
  replace HA5 := Lib.hid (Rep.below (R := AcctR) HA5.out hb (by omega))
  replace BS := Lib.hid (BS.out.below hb (by omega))
  replace HB : Hid (Below w.heap.size w w9) := Lib.hid (HB.out.trans (hb.mono (by omega)))
  clear hb HC p0 p1 p2 p3 p4 p5 p6 p7 p8 p9 p10
  obtain ⟨xh, xc, xs, xl, hcs, y1, y2, y3, y4⟩ := acct_rd HA.out
  simp only [aCells, List.cons.injEq, and_true, true_and] at hcs
  obtain ⟨rfl, rfl, rfl, rfl⟩ := hcs
  simp only at y2 y3
  have HC := Lib.hid (implSum_any w1.heap.size _ _ (sp, hd, cs, ss) now w9 (HH.out _ HB.out) y2 y3 (by omega) (Nat.le_trans HFW.out.c (by omega)) (Nat.le_trans HFW.out.s (by omega)))
  clear y1 y2 y3 y4
  simp only at HC
  have hbru := ring_total_nn (r := (sp, hd, cs, ss)) (now := now) true
  generalize ringTotal (sp, hd, cs, ss) now true = ru at HC HAF hbru
  obtain ⟨⟨p0, p1, p2, p3, p4, p5, p6, p7, p8, p9, p10⟩, -⟩ := BA.out.eleven
  go_wp2_with fail
  refine (HC.out).mono ?_
  rintro e w10 ⟨rfl, hb⟩
  have z10 := hb.size
  replace HA := Lib.hid (Rep.below (R := AcctR) HA.out hb (by omega))
  replace BA := Lib.hid (BA.out.below hb (by omega))
  replace HA1 := Lib.hid (Rep.below (R := AcctR) HA1.out hb (by omega))
  replace B8 := Lib.hid (B8.out.below hb (by omega))
  replace HA5 := Lib.hid (Rep.below (R := AcctR) HA5.out hb (by omega))
  replace BS := Lib.hid (BS.out.below hb (by omega))
  replace HB : Hid (Below w.heap.size w w10) := Lib.hid (HB.out.trans (hb.mono (by omega)))
  clear hb HC p0 p1 p2 p3 p4 p5 p6 p7 p8 p9 p10
  have hw1 : IntKind.i64.wrap (rt + 1) = rt + 1 := IntWalk.i64_in _ (by omega)
  have hw2 : IntKind.i64.wrap (ru + n) = ru + n := IntWalk.i64_in _ (by omega)
  clear hbrt hbru
  obtain ⟨xh, xc, xs, xl, hcs, y1, -, -, -⟩ := acct_rd HA5.out
  simp only [aCells, List.cons.injEq, and_true, true_and] at hcs
  obtain ⟨rfl, -, -, -⟩ := hcs
  simp only [aH] at y1
  have HC := Lib.hid (implHoldAt_any w6.heap.size _ hs5 s w10 (Nat.le_trans HFW5.out.h (by omega)) y1 (by omega))
  clear y1
  generalize findH hs5 s = fh at HC HAF
  obtain ⟨⟨p0, p1, p2, p3, p4, p5, p6, p7, p8, p9, p10⟩, -⟩ := BS.out.eleven
  go_wp2_with fail
  refine (HC.out).mono ?_
  rintro e w11 ⟨rfl, hb⟩
  have z11 := hb.size
  replace HA := Lib.hid (Rep.below (R := AcctR) HA.out hb (by omega))
  replace BA := Lib.hid (BA.out.below hb (by omega))
  replace HA1 := Lib.hid (Rep.below (R := AcctR) HA1.out hb (by omega))
  replace B8 := Lib.hid (B8.out.below hb (by omega))
  replace HA5 := Lib.hid (Rep.below (R := AcctR) HA5.out hb (by omega))
  replace BS := Lib.hid (BS.out.below hb (by omega))
  replace HB : Hid (Below w.heap.size w w11) := Lib.hid (HB.out.trans (hb.mono (by omega)))
  clear hb HC p0 p1 p2 p3 p4 p5 p6 p7 p8 p9 p10
  by_cases hk : k1 = 0
  · subst hk
    obtain ⟨⟨⟨c1, c2⟩, c3, c4, c5⟩, k, f1, f2, f3, f4, f5, f6, f7⟩ := HAF.out.2 rfl
    clear HAF
    have c2i : (hs5.length : Int) < 4 := by omega
    obtain ⟨xh, xc, xs, xl, hcs, y1, -, -, -⟩ := acct_rd HA1.out
    simp only [aCells, List.cons.injEq, and_true, true_and] at hcs
    obtain ⟨rfl, -, -, -⟩ := hcs
    simp only [aH] at y1
    obtain ⟨A0, c0, hv0, -, hr1⟩ := holds_rd y1
    simp only [Value.slice.injEq, true_and] at hv0
    obtain ⟨rfl, rfl⟩ := hv0
    obtain ⟨b1, o1, rfl, hbl, d0, d1, d2⟩ := hr1 k _ f2
    have HD := Lib.hid (And.intro hbl (And.intro d0 (And.intro d1 d2)))
    have hkl := (List.getElem?_eq_some_iff.1 f2).1
    clear y1 hr1 f2 hbl d0 d1 d2
    have HF := Lib.hid (And.intro f1 (And.intro f3 (And.intro f4 (And.intro f5 (And.intro f6 f7)))))
    clear f1 f3 f4 f5 f6 f7
    obtain ⟨⟨p0, p1, p2, p3, p4, p5, p6, p7, p8, p9, p10⟩, -⟩ := BA.out.eleven
    obtain ⟨⟨s0, s1, s2, s3, s4, s5, s6, s7, s8, s9, s10⟩, -⟩ := BS.out.eleven
    have HBQ : Hid (Below w11.heap.size w11 w11) := Lib.hid (Below.refl _ _)
    go_upto_region 14 with fail
    clear p0 p1 p2 p3 p4 p5 p6 p7 p8 p9 p10 s0 s1 s2 s3 s4 s5 s6 s7 s8 s9 s10
    obtain ⟨xh, xc, xs, xl, hcs, y1, -, -, -⟩ := acct_rd HA1.out
    simp only [aCells, List.cons.injEq, and_true, true_and] at hcs
    obtain ⟨rfl, -, -, -⟩ := hcs
    simp only [aH] at y1
    have HC := Lib.hid (specHoldAt_any w4.heap.size _ hs1 s w11 (Nat.le_trans HFW1.out.h (by omega)) y1 (by omega))
    clear y1
    rw [HF.out.1] at HC
    obtain ⟨⟨p0, p1, p2, p3, p4, p5, p6, p7, p8, p9, p10⟩, -⟩ := B8.out.eleven
    go_wp2_with fail
    refine (HC.out).mono ?_
    rintro e w12 ⟨rfl, hb⟩
    have z12 := hb.size
    replace HA := Lib.hid (Rep.below (R := AcctR) HA.out hb (by omega))
    replace BA := Lib.hid (BA.out.below hb (by omega))
    replace HA1 := Lib.hid (Rep.below (R := AcctR) HA1.out hb (by omega))
    replace B8 := Lib.hid (B8.out.below hb (by omega))
    replace HA5 := Lib.hid (Rep.below (R := AcctR) HA5.out hb (by omega))
    replace BS := Lib.hid (BS.out.below hb (by omega))
    replace HBQ := Lib.hid (HBQ.out.trans (hb.mono (by omega)))
    replace HB : Hid (Below w.heap.size w w12) := Lib.hid (HB.out.trans (hb.mono (by omega)))
    clear hb HC p0 p1 p2 p3 p4 p5 p6 p7 p8 p9 p10
    have k0 : (k : Int) ≥ 0 := by omega
    have k1 : (k : Int) < (hs1.length : Int) := by omega
    have k2 : 0 ≤ (k : Int) := by omega
    have heq : ∀ V : World, (binOp .eql 33 (.agg #[.string s, .int .i64 n, .int .i64 (now + ttl)]) (.agg #[.string s, .int .i64 n, .int .i64 (now + ttl)])).run Tryz.prog V = .ok (.bool true) V := fun V => by have := holdEql (s, n, now + ttl) (s, n, now + ttl) V; simpa using this
    have d0 := (HBQ.out.cell (p := ⟨b1, _, none⟩) (show b1 < w11.heap.size by have := HD.out.1; omega)).trans HD.out.2.1
    have d1 := (HBQ.out.cell (p := ⟨b1, _, none⟩) (show b1 < w11.heap.size by have := HD.out.1; omega)).trans HD.out.2.2.1
    have d2 := (HBQ.out.cell (p := ⟨b1, _, none⟩) (show b1 < w11.heap.size by have := HD.out.1; omega)).trans HD.out.2.2.2
    try simp only at d0 d1 d2
    have HC := Lib.hid (implRoom_any w4.heap.size _ _ _ _ (id1, lim1, pos1, most1, sum1, hs1, (sp1, hd1, cs1, ss1), sl1) now w12 (HH.out _ HB.out) (few_small HFW1.out) (few_big HFW1.out) HA1.out (by omega))
    simp only [aId, aLim, aPos, aMost, aSum] at HC
    rw [HF.out.2.1] at HC
    obtain ⟨⟨p0, p1, p2, p3, p4, p5, p6, p7, p8, p9, p10⟩, -⟩ := B8.out.eleven
    go_wp2_with fail
    refine (HC.out).mono ?_
    rintro e w13 ⟨rfl, hb⟩
    have z13 := hb.size
    replace HA := Lib.hid (Rep.below (R := AcctR) HA.out hb (by omega))
    replace BA := Lib.hid (BA.out.below hb (by omega))
    replace HA1 := Lib.hid (Rep.below (R := AcctR) HA1.out hb (by omega))
    replace B8 := Lib.hid (B8.out.below hb (by omega))
    replace HA5 := Lib.hid (Rep.below (R := AcctR) HA5.out hb (by omega))
    replace BS := Lib.hid (BS.out.below hb (by omega))
    replace HBQ := Lib.hid (HBQ.out.trans (hb.mono (by omega)))
    replace HB : Hid (Below w.heap.size w w13) := Lib.hid (HB.out.trans (hb.mono (by omega)))
    clear hb HC d0 d1 d2 heq p0 p1 p2 p3 p4 p5 p6 p7 p8 p9 p10
    obtain ⟨xh, xc, xs, xl, hcs, y1, y2, y3, y4⟩ := acct_rd HA1.out
    simp only [aCells, List.cons.injEq, and_true, true_and] at hcs
    obtain ⟨rfl, rfl, rfl, rfl⟩ := hcs
    simp only at y2 y3
    have HC := Lib.hid (implCount_any w4.heap.size _ _ (sp1, hd1, cs1, ss1) now w13 (HH.out _ HB.out) y2 y3 (by omega) (Nat.le_trans HFW1.out.c (by omega)) (Nat.le_trans HFW1.out.s (by omega)))
    clear y1 y2 y3 y4
    simp only at HC
    rw [HF.out.2.2.1] at HC
    obtain ⟨⟨p0, p1, p2, p3, p4, p5, p6, p7, p8, p9, p10⟩, -⟩ := B8.out.eleven
    go_wp2_with fail
    refine (HC.out).mono ?_
    rintro e w14 ⟨rfl, hb⟩
    have z14 := hb.size
    replace HA := Lib.hid (Rep.below (R := AcctR) HA.out hb (by omega))
    replace BA := Lib.hid (BA.out.below hb (by omega))
    replace HA1 := Lib.hid (Rep.below (R := AcctR) HA1.out hb (by omega))
    replace B8 := Lib.hid (B8.out.below hb (by omega))
    replace HA5 := Lib.hid (Rep.below (R := AcctR) HA5.out hb (by omega))
    replace BS := Lib.hid (BS.out.below hb (by omega))
    replace HBQ := Lib.hid (HBQ.out.trans (hb.mono (by omega)))
    replace HB : Hid (Below w.heap.size w w14) := Lib.hid (HB.out.trans (hb.mono (by omega)))
    clear hb HC p0 p1 p2 p3 p4 p5 p6 p7 p8 p9 p10
    obtain ⟨xh, xc, xs, xl, hcs, y1, y2, y3, y4⟩ := acct_rd HA1.out
    simp only [aCells, List.cons.injEq, and_true, true_and] at hcs
    obtain ⟨rfl, rfl, rfl, rfl⟩ := hcs
    simp only at y2 y3
    have HC := Lib.hid (implSum_any w4.heap.size _ _ (sp1, hd1, cs1, ss1) now w14 (HH.out _ HB.out) y2 y3 (by omega) (Nat.le_trans HFW1.out.c (by omega)) (Nat.le_trans HFW1.out.s (by omega)))
    clear y1 y2 y3 y4
    simp only at HC
    rw [HF.out.2.2.2.1] at HC
    obtain ⟨⟨p0, p1, p2, p3, p4, p5, p6, p7, p8, p9, p10⟩, -⟩ := B8.out.eleven
    go_wp2_with fail
    refine (HC.out).mono ?_
    rintro e w15 ⟨rfl, hb⟩
    have z15 := hb.size
    replace HA := Lib.hid (Rep.below (R := AcctR) HA.out hb (by omega))
    replace BA := Lib.hid (BA.out.below hb (by omega))
    replace HA1 := Lib.hid (Rep.below (R := AcctR) HA1.out hb (by omega))
    replace B8 := Lib.hid (B8.out.below hb (by omega))
    replace HA5 := Lib.hid (Rep.below (R := AcctR) HA5.out hb (by omega))
    replace BS := Lib.hid (BS.out.below hb (by omega))
    replace HBQ := Lib.hid (HBQ.out.trans (hb.mono (by omega)))
    replace HB : Hid (Below w.heap.size w w15) := Lib.hid (HB.out.trans (hb.mono (by omega)))
    clear hb HC p0 p1 p2 p3 p4 p5 p6 p7 p8 p9 p10
    have HC := Lib.hid (implAcctOk_any w4.heap.size _ _ _ _ (id1, lim1, pos1, most1, sum1, hs1, (sp1, hd1, cs1, ss1), sl1) w15 (HH.out _ HB.out) (few_small HFW1.out) (few_big HFW1.out) HA1.out (by omega))
    simp only [aId, aLim, aPos, aMost, aSum] at HC
    rw [HF.out.2.2.2.2.2] at HC
    have hpp : pos1 = pos := HF.out.2.2.2.2.1
    subst hpp
    obtain ⟨⟨p0, p1, p2, p3, p4, p5, p6, p7, p8, p9, p10⟩, -⟩ := B8.out.eleven
    obtain ⟨⟨q0, q1, q2, q3, q4, q5, q6, q7, q8, q9, q10⟩, -⟩ := BA.out.eleven
    go_wp2_with fail
    refine (HC.out).mono ?_
    rintro e w16 ⟨rfl, hb⟩
    have z16 := hb.size
    replace HA := Lib.hid (Rep.below (R := AcctR) HA.out hb (by omega))
    replace BA := Lib.hid (BA.out.below hb (by omega))
    replace HA1 := Lib.hid (Rep.below (R := AcctR) HA1.out hb (by omega))
    replace B8 := Lib.hid (B8.out.below hb (by omega))
    replace HA5 := Lib.hid (Rep.below (R := AcctR) HA5.out hb (by omega))
    replace BS := Lib.hid (BS.out.below hb (by omega))
    replace HBQ := Lib.hid (HBQ.out.trans (hb.mono (by omega)))
    replace HB : Hid (Below w.heap.size w w16) := Lib.hid (HB.out.trans (hb.mono (by omega)))
    clear hb HC p0 p1 p2 p3 p4 p5 p6 p7 p8 p9 p10 q0 q1 q2 q3 q4 q5 q6 q7 q8 q9 q10
    go_wp2
    go_ret
    exact ⟨by first | rfl | (simp; done) | (simp; omega) | fail, HB.out⟩
  obtain ⟨hno, hid1⟩ := HAF.out.1 hk
  have hne : (k1 != 0) = true := by simpa using hk
  subst hid1
  clear HAF
  have HNO := Lib.hid hno
  clear hno
  obtain ⟨⟨p0, p1, p2, p3, p4, p5, p6, p7, p8, p9, p10⟩, -⟩ := BA.out.eleven
  obtain ⟨⟨s0, s1, s2, s3, s4, s5, s6, s7, s8, s9, s10⟩, -⟩ := BS.out.eleven
  obtain ⟨⟨t0, t1, t2, t3, t4, t5, t6, t7, t8, t9, t10⟩, -⟩ := B8.out.eleven
  by_cases c1 : fh < 0
  rotate_left
  · by_cases c3 : n ≤ rm
    rotate_left
    · go_wp2
      go_ret
      exact ⟨by first | rfl | (simp; done) | (simp; omega) | fail, HB.out⟩
    by_cases c4 : rt + 1 ≤ most
    rotate_left
    · go_wp2
      go_ret
      exact ⟨by first | rfl | (simp; done) | (simp; omega) | fail, HB.out⟩
    by_cases c5 : ru + n ≤ sum
    rotate_left
    · go_wp2
      go_ret
      exact ⟨by first | rfl | (simp; done) | (simp; omega) | fail, HB.out⟩
    go_wp2
    go_ret
    exact ⟨by first | rfl | (simp; done) | (simp; omega) | fail, HB.out⟩
  by_cases c2 : (hs5.length : Int) < 4
  rotate_left
  · by_cases c3 : n ≤ rm
    rotate_left
    · go_wp2
      go_ret
      exact ⟨by first | rfl | (simp; done) | (simp; omega) | fail, HB.out⟩
    by_cases c4 : rt + 1 ≤ most
    rotate_left
    · go_wp2
      go_ret
      exact ⟨by first | rfl | (simp; done) | (simp; omega) | fail, HB.out⟩
    by_cases c5 : ru + n ≤ sum
    rotate_left
    · go_wp2
      go_ret
      exact ⟨by first | rfl | (simp; done) | (simp; omega) | fail, HB.out⟩
    go_wp2
    go_ret
    exact ⟨by first | rfl | (simp; done) | (simp; omega) | fail, HB.out⟩
  by_cases c3 : n ≤ rm
  rotate_left
  · go_wp2
    go_ret
    exact ⟨by first | rfl | (simp; done) | (simp; omega) | fail, HB.out⟩
  by_cases c4 : rt + 1 ≤ most
  rotate_left
  · go_wp2
    go_ret
    exact ⟨by first | rfl | (simp; done) | (simp; omega) | fail, HB.out⟩
  by_cases c5 : ru + n ≤ sum
  rotate_left
  · go_wp2
    go_ret
    exact ⟨by first | rfl | (simp; done) | (simp; omega) | fail, HB.out⟩
  exact absurd ⟨⟨c1, by omega⟩, c3, c4, c5⟩ HNO.out
end Go.Proofs.YtnmijppppcgobaaGreatDoor.fnAuth
