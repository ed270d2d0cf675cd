/- What the laws FnMove need besides; no conditions. -/
import Derived.Test.YtnmijppppcgobaaGreatDoorMrg7
import Derived.Test.YtnmijppppcgobaaGreatDoorMv4
import Derived.Test.YtnmijppppcgobaaGreatDoorMv2
import Derived.Test.YtnmijppppcgobaaGreatDoorMv3
import Derived.Stop.LaidErr
import Derived.LaidMore
import Derived.Stop.Joined
import Derived.SevenTiedAt
import Derived.WalkSmall
import Derived.LaidHandle
import Derived.Test.YtnmijppppcgobaaGreatDoorMrg5
import Derived.Deep.RegionHeld3
import Derived.Deep.DeepCutAuto
import Derived.Test.YtnmijppppcgobaaGreatDoorMv1
namespace Go.Proofs.YtnmijppppcgobaaGreatDoor.fnMove
open Go.ChangeShapes Go.WideShapes Go.ChangeAt Go.RowKit
open Go.WideMaps Go.WideElems
open Go.ChangeMaps (open_string shut_string)
set_option linter.unusedVariables false

set_option maxRecDepth 100000 in
set_option maxHeartbeats 8000000 in
theorem walk (w : World) (p0 : Addr) (hc0 : w.cell? ⟨0, 0, none⟩ = some (.iface 266 (.pointer (some p0)))) (hh : w.cell? ⟨1, 0, none⟩ = some (.iface 230 (.agg #[.pointer (some ⟨6, 149, none⟩)]))) (a0 : Value) (s0 : ∃ ao len cap, a0 = .slice ao len cap) (w0 : readable w w.heap.size a0) :
    Calls Tryz.prog 7 #[a0] w fun e w' => e = .returned (.bool true) ∧ Below w.heap.size w w' := by
  obtain ⟨ao, len, cap, rfl⟩ := s0
  by_cases hbig : (1048576 : Int) < (len : Int)
  · go_enter Tryz.func7, Tryz.ntmps7
    go_wp2
    go_ret
    exact ⟨rfl, Below.refl _ _⟩
  have hlen : lenOf (.slice ao len cap) ≤ 1048576 := by show len ≤ 1048576; omega
  have HH : Hid (∀ w', Below w.heap.size w w' → Handle w') := Lib.hid fun w' h => Handle.below (w := w) hh h (Nat.le_refl _)
  clear hh
  have HR := Lib.hid w0
  clear w0
  go_enter Tryz.func7, Tryz.ntmps7
  have HB : Hid (Below w.heap.size w w) := Lib.hid (Below.refl _ _)
  go_wp2_with fail
  refine (makePair_any _ w ((HR.out.below HB.out).le HB.out.size) hlen).mono ?_
  rintro e w1 ⟨⟨id, lim, pos, most, sum, hs, ⟨sp, hd, cs, ss⟩, sl⟩, ⟨id9, lim9, pos9, most9, sum9, hs9, ⟨sp9, hd9, cs9, ss9⟩, sl9⟩, vh, vc, vs, vl, vh2, vc2, vs2, vl2, rfl, ⟨hok, hok9, hne⟩, hm, hm9, hb⟩
  have z1 := hb.size
  replace HB : Hid (Below w.heap.size w w1) := Lib.hid (HB.out.trans (hb.mono (by omega)))
  clear hb
  try simp only [aId, aLim, aPos, aMost, aSum] at hne ⊢
  obtain ⟨xh, xc, xs, xl, hcs, r1, r2, r3, r4⟩ := acct_rd hm
  try simp only [aCells, List.cons.injEq, and_true, true_and] at hcs
  obtain ⟨rfl, rfl, rfl, rfl⟩ := hcs
  obtain ⟨AH, cH, rfl, -⟩ := Rep.slice_form r1
  obtain ⟨AL, cL, rfl, -⟩ := Rep.slice_form r4
  obtain ⟨AC, cC, rfl, -⟩ := r2.form
  obtain ⟨AS, cS, rfl, -⟩ := r3.form
  clear r1 r2 r3 r4
  obtain ⟨xh, xc, xs, xl, hcs, r1, r2, r3, r4⟩ := acct_rd hm9
  try simp only [aCells, List.cons.injEq, and_true, true_and] at hcs
  obtain ⟨rfl, rfl, rfl, rfl⟩ := hcs
  obtain ⟨AH9, cH9, rfl, -⟩ := Rep.slice_form r1
  obtain ⟨AL9, cL9, rfl, -⟩ := Rep.slice_form r4
  obtain ⟨AC9, cC9, rfl, -⟩ := r2.form
  obtain ⟨AS9, cS9, rfl, -⟩ := r3.form
  try simp only [aH, aS] at hm hm9 ⊢
  have HOK := Lib.hid hok
  have HOK9 := Lib.hid hok9
  have HNE := Lib.hid hne
  have HFW := Lib.hid (acctOk_few hok)
  have HFW9 := Lib.hid (acctOk_few hok9)
  have HA := Lib.hid hm
  have HA9 := Lib.hid hm9
  clear r1 r2 r3 r4 hok hok9 hne hm hm9
  go_upto_region 4 with fail
  obtain ⟨w2, hW⟩ : ∃ V, V = (w1.alloc (.cells #[.string id, .int .i64 lim, .int .i64 pos, .int .i64 most, .int .i64 sum, .slice AH hs.length cH, .int .i64 sp, .int .i64 hd, .slice AC cs.length cC, .slice AS ss.length cS, .slice AL sl.length cL] 29)).alloc (.cells #[.string id9, .int .i64 lim9, .int .i64 pos9, .int .i64 most9, .int .i64 sum9, .slice AH9 hs9.length cH9, .int .i64 sp9, .int .i64 hd9, .slice AC9 cs9.length cC9, .slice AS9 ss9.length cS9, .slice AL9 sl9.length cL9] 29) := ⟨_, rfl⟩
  have bx : bk w2 w1.heap.size 29 [.string id, .int .i64 lim, .int .i64 pos, .int .i64 most, .int .i64 sum, .slice AH hs.length cH, .int .i64 sp, .int .i64 hd, .slice AC cs.length cC, .slice AS ss.length cS, .slice AL sl.length cL] := by rw [hW]; exact (bk.new w1 _ _).alloc _
  have by_ : bk w2 (w1.heap.size + 1) 29 [.string id9, .int .i64 lim9, .int .i64 pos9, .int .i64 most9, .int .i64 sum9, .slice AH9 hs9.length cH9, .int .i64 sp9, .int .i64 hd9, .slice AC9 cs9.length cC9, .slice AS9 ss9.length cS9, .slice AL9 sl9.length cL9] := by rw [hW]; simpa using bk.new (w1.alloc (.cells #[.string id, .int .i64 lim, .int .i64 pos, .int .i64 most, .int .i64 sum, .slice AH hs.length cH, .int .i64 sp, .int .i64 hd, .slice AC cs.length cC, .slice AS ss.length cS, .slice AL sl.length cL] 29)) 29 [.string id9, .int .i64 lim9, .int .i64 pos9, .int .i64 most9, .int .i64 sum9, .slice AH9 hs9.length cH9, .int .i64 sp9, .int .i64 hd9, .slice AC9 cs9.length cC9, .slice AS9 ss9.length cS9, .slice AL9 sl9.length cL9]
  have hb : Below w1.heap.size w1 w2 := by rw [hW]; exact ((Below.refl _ _).alloc (Nat.le_refl _) _).alloc (by simp) _
  rw [← hW]
  clear hW
  have z2 := by_.lt
  have y2 := hb.size
  replace HA := Lib.hid (Rep.below (R := AcctR) HA.out hb (by omega))
  replace HA9 := Lib.hid (Rep.below (R := AcctR) HA9.out hb (by omega))
  replace HB : Hid (Below w.heap.size w w2) := Lib.hid (HB.out.trans (hb.mono (by omega)))
  have BA := Lib.hid bx
  have BB := Lib.hid by_
  clear hb bx by_
  go_wp2_with fail
  refine (makeHold_any _ w2 ((HR.out.below HB.out).le HB.out.size) hlen).mono ?_
  rintro e w3 ⟨s, n, ttl, now, rfl, ⟨hid, hsz, ⟨n0, n1⟩, ⟨ttl0, ttl1⟩, now0, now1⟩, hb⟩
  have z3 := hb.size
  replace HA := Lib.hid (Rep.below (R := AcctR) HA.out hb (by omega))
  replace HA9 := Lib.hid (Rep.below (R := AcctR) HA9.out hb (by omega))
  replace BA := Lib.hid (BA.out.below hb (by omega))
  replace BB := Lib.hid (BB.out.below hb (by omega))
  replace HB : Hid (Below w.heap.size w w3) := Lib.hid (HB.out.trans (hb.mono (by omega)))
  clear hb
  have HTM : Hid (timeB now = true) := Lib.hid (by unfold timeB inB; exact decide_eq_true (by omega))
  clear hid hsz n0 n1 ttl0 ttl1 now0 now1
  have HC := Lib.hid (specAcctSwept_any w1.heap.size _ _ _ _ (id, lim, pos, most, sum, hs, (sp, hd, cs, ss), sl) now w3 (few_small HFW.out) (few_big HFW.out) HA.out (by omega))
  try simp only [aId, aLim, aPos, aMost, aSum] at HC
  have HFW5 := Lib.hid (few_swept (now := now) HFW.out)
  obtain ⟨S, hS⟩ : ∃ r, r = acctSwept (id, lim, pos, most, sum, hs, (sp, hd, cs, ss), sl) now := ⟨_, rfl⟩
  have HS5 := Lib.hid hS
  rw [← hS] at HC HFW5
  clear hS
  obtain ⟨id5, lim5, pos5, most5, sum5, hs5, ⟨sp5, hd5, cs5, ss5⟩, sl5⟩ := S
  try simp only at HC
  obtain ⟨⟨p0, p1, p2, p3, p4, p5, p6, p7, p8, p9, p10⟩, -⟩ := BA.out.eleven
  go_wp2_with fail
  refine (HC.out).mono ?_
  rintro e w4 ⟨vh, vc, vs, vl, rfl, hm, hb⟩
  have z4 := hb.size
  replace HA := Lib.hid (Rep.below (R := AcctR) HA.out hb (by omega))
  replace HA9 := Lib.hid (Rep.below (R := AcctR) HA9.out hb (by omega))
  replace BA := Lib.hid (BA.out.below hb (by omega))
  replace BB := Lib.hid (BB.out.below hb (by omega))
  replace HB : Hid (Below w.heap.size w w4) := Lib.hid (HB.out.trans (hb.mono (by omega)))
  clear hb HC p0 p1 p2 p3 p4 p5 p6 p7 p8 p9 p10
  try simp only [aId, aLim, aPos, aMost, aSum]
  obtain ⟨xh, xc, xs, xl, hcs, r1, r2, r3, r4⟩ := acct_rd hm.rd
  try simp only [aCells, List.cons.injEq, and_true, true_and] at hcs
  obtain ⟨rfl, rfl, rfl, rfl⟩ := hcs
  obtain ⟨AH5, cH5, rfl, -⟩ := Rep.slice_form r1
  obtain ⟨AL5, cL5, rfl, -⟩ := Rep.slice_form r4
  obtain ⟨AC5, cC5, rfl, -⟩ := r2.form
  obtain ⟨AS5, cS5, rfl, -⟩ := r3.form
  try simp only [aH, aS]
  have HA5 := Lib.hid hm.rd
  clear r1 r2 r3 r4 hm
  go_upto_region 6 with fail
  obtain ⟨w5, hW⟩ : ∃ V, V = w4.alloc (.cells #[.string id5, .int .i64 lim5, .int .i64 pos5, .int .i64 most5, .int .i64 sum5, .slice AH5 hs5.length cH5, .int .i64 sp5, .int .i64 hd5, .slice AC5 cs5.length cC5, .slice AS5 ss5.length cS5, .slice AL5 sl5.length cL5] 29) := ⟨_, rfl⟩
  have bx : bk w5 w4.heap.size 29 [.string id5, .int .i64 lim5, .int .i64 pos5, .int .i64 most5, .int .i64 sum5, .slice AH5 hs5.length cH5, .int .i64 sp5, .int .i64 hd5, .slice AC5 cs5.length cC5, .slice AS5 ss5.length cS5, .slice AL5 sl5.length cL5] := by rw [hW]; exact bk.new w4 _ _
  have hb : Below w4.heap.size w4 w5 := by rw [hW]; exact (Below.refl _ _).alloc (Nat.le_refl _) _
  rw [← hW]
  clear hW
  have z5 := bx.lt
  have y5 := hb.size
  replace HA := Lib.hid (Rep.below (R := AcctR) HA.out hb (by omega))
  replace HA9 := Lib.hid (Rep.below (R := AcctR) HA9.out hb (by omega))
  replace BA := Lib.hid (BA.out.below hb (by omega))
  replace BB := Lib.hid (BB.out.below hb (by omega))
  replace HA5 := Lib.hid (Rep.below (R := AcctR) HA5.out hb (by omega))
  replace HB : Hid (Below w.heap.size w w5) := Lib.hid (HB.out.trans (hb.mono (by omega)))
  have BS := Lib.hid bx
  clear hb bx
  have HC := Lib.hid (specAcctSwept_any w1.heap.size _ _ _ _ (id9, lim9, pos9, most9, sum9, hs9, (sp9, hd9, cs9, ss9), sl9) now w5 (few_small HFW9.out) (few_big HFW9.out) HA9.out (by omega))
  try simp only [aId, aLim, aPos, aMost, aSum] at HC
  have HFW6 := Lib.hid (few_swept (now := now) HFW9.out)
  obtain ⟨S, hS⟩ : ∃ r, r = acctSwept (id9, lim9, pos9, most9, sum9, hs9, (sp9, hd9, cs9, ss9), sl9) now := ⟨_, rfl⟩
  have HS6 := Lib.hid hS
  rw [← hS] at HC HFW6
  clear hS
  obtain ⟨id6, lim6, pos6, most6, sum6, hs6, ⟨sp6, hd6, cs6, ss6⟩, sl6⟩ := S
  try simp only at HC
  obtain ⟨⟨p0, p1, p2, p3, p4, p5, p6, p7, p8, p9, p10⟩, -⟩ := BB.out.eleven
  go_wp2_with fail
  refine (HC.out).mono ?_
  rintro e w6 ⟨vh, vc, vs, vl, rfl, hm, hb⟩
  have z6 := hb.size
  replace HA := Lib.hid (Rep.below (R := AcctR) HA.out hb (by omega))
  replace HA9 := Lib.hid (Rep.below (R := AcctR) HA9.out hb (by omega))
  replace BA := Lib.hid (BA.out.below hb (by omega))
  replace BB := Lib.hid (BB.out.below hb (by omega))
  replace HA5 := Lib.hid (Rep.below (R := AcctR) HA5.out hb (by omega))
  replace BS := Lib.hid (BS.out.below hb (by omega))
  replace HB : Hid (Below w.heap.size w w6) := Lib.hid (HB.out.trans (hb.mono (by omega)))
  clear hb HC p0 p1 p2 p3 p4 p5 p6 p7 p8 p9 p10
  try simp only [aId, aLim, aPos, aMost, aSum]
  obtain ⟨xh, xc, xs, xl, hcs, r1, r2, r3, r4⟩ := acct_rd hm.rd
  try simp only [aCells, List.cons.injEq, and_true, true_and] at hcs
  obtain ⟨rfl, rfl, rfl, rfl⟩ := hcs
  obtain ⟨AH6, cH6, rfl, -⟩ := Rep.slice_form r1
  obtain ⟨AL6, cL6, rfl, -⟩ := Rep.slice_form r4
  obtain ⟨AC6, cC6, rfl, -⟩ := r2.form
  obtain ⟨AS6, cS6, rfl, -⟩ := r3.form
  try simp only [aH, aS]
  have HA6 := Lib.hid hm.rd
  clear r1 r2 r3 r4 hm
  go_upto_region 7 with fail
  obtain ⟨w7, hW⟩ : ∃ V, V = w6.alloc (.cells #[.string id6, .int .i64 lim6, .int .i64 pos6, .int .i64 most6, .int .i64 sum6, .slice AH6 hs6.length cH6, .int .i64 sp6, .int .i64 hd6, .slice AC6 cs6.length cC6, .slice AS6 ss6.length cS6, .slice AL6 sl6.length cL6] 29) := ⟨_, rfl⟩
  have bx : bk w7 w6.heap.size 29 [.string id6, .int .i64 lim6, .int .i64 pos6, .int .i64 most6, .int .i64 sum6, .slice AH6 hs6.length cH6, .int .i64 sp6, .int .i64 hd6, .slice AC6 cs6.length cC6, .slice AS6 ss6.length cS6, .slice AL6 sl6.length cL6] := by rw [hW]; exact bk.new w6 _ _
  have hb : Below w6.heap.size w6 w7 := by rw [hW]; exact (Below.refl _ _).alloc (Nat.le_refl _) _
  rw [← hW]
  clear hW
  have z7 := bx.lt
  have y7 := hb.size
  replace HA := Lib.hid (Rep.below (R := AcctR) HA.out hb (by omega))
  replace HA9 := Lib.hid (Rep.below (R := AcctR) HA9.out hb (by omega))
  replace BA := Lib.hid (BA.out.below hb (by omega))
  replace BB := Lib.hid (BB.out.below hb (by omega))
  replace HA5 := Lib.hid (Rep.below (R := AcctR) HA5.out hb (by omega))
  replace BS := Lib.hid (BS.out.below hb (by omega))
  replace HA6 := Lib.hid (Rep.below (R := AcctR) HA6.out hb (by omega))
  replace HB : Hid (Below w.heap.size w w7) := Lib.hid (HB.out.trans (hb.mono (by omega)))
  have BT := Lib.hid bx
  clear hb bx
  obtain ⟨xh, xc, xs, xl, hcs, y1, -, -, -⟩ := acct_rd HA5.out
  try simp only [aCells, List.cons.injEq, and_true, true_and] at hcs
  obtain ⟨rfl, -, -, -⟩ := hcs
  try simp only [aH] at y1
  obtain ⟨A0, c0, hv0, -, hr1⟩ := holds_rd y1
  try simp only [Value.slice.injEq, true_and] at hv0
  obtain ⟨rfl, rfl⟩ := hv0
  have HRD := Lib.hid hr1
  clear hr1 y1
  have hl4 : hs5.length ≤ 4 := HFW5.out.h
  obtain ⟨⟨s0, s1, s2, s3, s4, s5, s6, s7, s8, s9, s10⟩, -⟩ := BS.out.eleven
  go_upto_region 8 with fail
  clear s0 s1 s2 s3 s4 s5 s6 s7 s8 s9 s10
  have hq0 : w1.heap.size < w7.heap.size := by omega
  have hq1 : w1.heap.size + 1 < w7.heap.size := by omega
  have hq2 : w4.heap.size < w7.heap.size := by omega
  have hq3 : w6.heap.size < w7.heap.size := by omega
  have hp0 : w1.heap.size ≤ w7.heap.size := by omega
  have hp1 : w1.heap.size ≤ w7.heap.size := by omega
  have hp2 : w4.heap.size ≤ w7.heap.size := by omega
  have hp3 : w6.heap.size ≤ w7.heap.size := by omega
  have hq9 : w.heap.size ≤ w1.heap.size := by omega
  have hq10 : w1.heap.size ≤ w4.heap.size := by omega
  have hq11 : w4.heap.size ≤ w6.heap.size := by omega
  go_loopw [44] (fun iv wr => ∃ i : Nat, i ≤ hs5.length ∧ iv = .int .i64 i ∧ Hid (Below w7.heap.size w7 wr)) (fun iv _ => hs5.length - (intOf iv).toNat)
  case atStart => exact ⟨0, Nat.zero_le _, rfl, Lib.hid (Below.refl _ _)⟩
  case round =>
    obtain ⟨i, hi', rfl, HQ⟩ := hrel
    have zr := HQ.out.size
    replace BA := Lib.hid (BA.out.below HQ.out hq0)
    replace BB := Lib.hid (BB.out.below HQ.out hq1)
    replace BS := Lib.hid (BS.out.below HQ.out hq2)
    replace BT := Lib.hid (BT.out.below HQ.out hq3)
    replace HA := Lib.hid (Rep.below (R := AcctR) HA.out HQ.out hp0)
    replace HA9 := Lib.hid (Rep.below (R := AcctR) HA9.out HQ.out hp1)
    replace HA5 := Lib.hid (Rep.below (R := AcctR) HA5.out HQ.out hp2)
    replace HA6 := Lib.hid (Rep.below (R := AcctR) HA6.out HQ.out hp3)
    replace HB : Hid (Below w.heap.size w wr) := Lib.hid (HB.out.trans (HQ.out.mono (by omega)))
    by_cases hin : i < hs5.length
    rotate_left
    · obtain rfl : i = hs5.length := by omega
      have HSF := Lib.hid (move_self (id := ⟨#[97]⟩) HOK.out HTM.out (by decide))
      have hpr : w1.heap.size ≤ wr.heap.size := by omega
      have HC := Lib.hid (implMoveR_any w1.heap.size _ _ _ _ (id, lim, pos, most, sum, hs, (sp, hd, cs, ss), sl) _ _ _ _ (id, lim, pos, most, sum, hs, (sp, hd, cs, ss), sl) ⟨#[97]⟩ now wr (HH.out _ HB.out) (few_small HFW.out) (few_big HFW.out) HA.out (few_small HFW.out) (few_big HFW.out) HA.out (by omega) (by decide))
      try simp only [aId, aLim, aPos, aMost, aSum] at HC
      have HFM := Lib.hid (few_move (id, lim, pos, most, sum, hs, (sp, hd, cs, ss), sl) (id, lim, pos, most, sum, hs, (sp, hd, cs, ss), sl) ⟨#[97]⟩ now)
      obtain ⟨⟨⟨id1, lim1, pos1, most1, sum1, hs1, ⟨sp1, hd1, cs1, ss1⟩, sl1⟩, ⟨id2, lim2, pos2, most2, sum2, hs2, ⟨sp2, hd2, cs2, ss2⟩, sl2⟩, k1⟩, hr⟩ : ∃ r, r = moveL (id, lim, pos, most, sum, hs, (sp, hd, cs, ss), sl) (id, lim, pos, most, sum, hs, (sp, hd, cs, ss), sl) ⟨#[97]⟩ now := ⟨_, rfl⟩
      rw [← hr] at HC HFM HSF
      clear hr
      have HFW1 := Lib.hid HFM.out.1
      have HFW2 := Lib.hid HFM.out.2
      clear HFM
      obtain ⟨⟨p0, p1, p2, p3, p4, p5, p6, p7, p8, p9, p10⟩, -⟩ := BA.out.eleven
      go_wp2_with fail
      refine (HC.out).mono ?_
      rintro e w101 ⟨vh, vc, vs, vl, vh2, vc2, vs2, vl2, rfl, hm, hm2, hb⟩
      have z101 := hb.size
      replace BA := Lib.hid (BA.out.below hb (by omega))
      replace BB := Lib.hid (BB.out.below hb (by omega))
      replace BS := Lib.hid (BS.out.below hb (by omega))
      replace BT := Lib.hid (BT.out.below hb (by omega))
      replace HA := Lib.hid (Rep.below (R := AcctR) HA.out hb (by omega))
      replace HA9 := Lib.hid (Rep.below (R := AcctR) HA9.out hb (by omega))
      replace HA5 := Lib.hid (Rep.below (R := AcctR) HA5.out hb (by omega))
      replace HA6 := Lib.hid (Rep.below (R := AcctR) HA6.out hb (by omega))
      replace HQ := Lib.hid (HQ.out.trans (hb.mono (by omega)))
      replace HB : Hid (Below w.heap.size w w101) := Lib.hid (HB.out.trans (hb.mono (by omega)))
      clear hb HC p0 p1 p2 p3 p4 p5 p6 p7 p8 p9 p10
      try simp only [aId, aLim, aPos, aMost, aSum]
      obtain ⟨xh, xc, xs, xl, hcs, r1, r2, r3, r4⟩ := acct_rd hm.rd
      try simp only [aCells, List.cons.injEq, and_true, true_and] at hcs
      obtain ⟨rfl, rfl, rfl, rfl⟩ := hcs
      obtain ⟨AH1, cH1, rfl, -⟩ := Rep.slice_form r1
      obtain ⟨AL1, cL1, rfl, -⟩ := Rep.slice_form r4
      obtain ⟨AC1, cC1, rfl, -⟩ := r2.form
      obtain ⟨AS1, cS1, rfl, -⟩ := r3.form
      clear r1 r2 r3 r4
      obtain ⟨xh, xc, xs, xl, hcs, r1, r2, r3, r4⟩ := acct_rd hm2.rd
      try simp only [aCells, List.cons.injEq, and_true, true_and] at hcs
      obtain ⟨rfl, rfl, rfl, rfl⟩ := hcs
      obtain ⟨AH2, cH2, rfl, -⟩ := Rep.slice_form r1
      obtain ⟨AL2, cL2, rfl, -⟩ := Rep.slice_form r4
      obtain ⟨AC2, cC2, rfl, -⟩ := r2.form
      obtain ⟨AS2, cS2, rfl, -⟩ := r3.form
      try simp only [aH, aS]
      have HA1 := Lib.hid hm.rd
      have HA2 := Lib.hid hm2.rd
      clear r1 r2 r3 r4 hm hm2
      go_upto_region 19 with fail
      obtain ⟨w102, hW⟩ : ∃ V, V = (w101.alloc (.cells #[.string id1, .int .i64 lim1, .int .i64 pos1, .int .i64 most1, .int .i64 sum1, .slice AH1 hs1.length cH1, .int .i64 sp1, .int .i64 hd1, .slice AC1 cs1.length cC1, .slice AS1 ss1.length cS1, .slice AL1 sl1.length cL1] 29)).alloc (.cells #[.string id2, .int .i64 lim2, .int .i64 pos2, .int .i64 most2, .int .i64 sum2, .slice AH2 hs2.length cH2, .int .i64 sp2, .int .i64 hd2, .slice AC2 cs2.length cC2, .slice AS2 ss2.length cS2, .slice AL2 sl2.length cL2] 29) := ⟨_, rfl⟩
      have bx : bk w102 w101.heap.size 29 [.string id1, .int .i64 lim1, .int .i64 pos1, .int .i64 most1, .int .i64 sum1, .slice AH1 hs1.length cH1, .int .i64 sp1, .int .i64 hd1, .slice AC1 cs1.length cC1, .slice AS1 ss1.length cS1, .slice AL1 sl1.length cL1] := by rw [hW]; exact (bk.new w101 _ _).alloc _
      have by_ : bk w102 (w101.heap.size + 1) 29 [.string id2, .int .i64 lim2, .int .i64 pos2, .int .i64 most2, .int .i64 sum2, .slice AH2 hs2.length cH2, .int .i64 sp2, .int .i64 hd2, .slice AC2 cs2.length cC2, .slice AS2 ss2.length cS2, .slice AL2 sl2.length cL2] := by rw [hW]; simpa using bk.new (w101.alloc (.cells #[.string id1, .int .i64 lim1, .int .i64 pos1, .int .i64 most1, .int .i64 sum1, .slice AH1 hs1.length cH1, .int .i64 sp1, .int .i64 hd1, .slice AC1 cs1.length cC1, .slice AS1 ss1.length cS1, .slice AL1 sl1.length cL1] 29)) 29 [.string id2, .int .i64 lim2, .int .i64 pos2, .int .i64 most2, .int .i64 sum2, .slice AH2 hs2.length cH2, .int .i64 sp2, .int .i64 hd2, .slice AC2 cs2.length cC2, .slice AS2 ss2.length cS2, .slice AL2 sl2.length cL2]
      have hb : Below w101.heap.size w101 w102 := by rw [hW]; exact ((Below.refl _ _).alloc (Nat.le_refl _) _).alloc (by simp) _
      rw [← hW]
      clear hW
      have z102 := by_.lt
      have y102 := hb.size
      replace BA := Lib.hid (BA.out.below hb (by omega))
      replace BB := Lib.hid (BB.out.below hb (by omega))
      replace BS := Lib.hid (BS.out.below hb (by omega))
      replace BT := Lib.hid (BT.out.below hb (by omega))
      replace HA := Lib.hid (Rep.below (R := AcctR) HA.out hb (by omega))
      replace HA9 := Lib.hid (Rep.below (R := AcctR) HA9.out hb (by omega))
      replace HA5 := Lib.hid (Rep.below (R := AcctR) HA5.out hb (by omega))
      replace HA6 := Lib.hid (Rep.below (R := AcctR) HA6.out hb (by omega))
      replace HA1 := Lib.hid (Rep.below (R := AcctR) HA1.out hb (by omega))
      replace HA2 := Lib.hid (Rep.below (R := AcctR) HA2.out hb (by omega))
      replace HQ := Lib.hid (HQ.out.trans (hb.mono (by omega)))
      replace HB : Hid (Below w.heap.size w w102) := Lib.hid (HB.out.trans (hb.mono (by omega)))
      have B1 := Lib.hid bx
      have B2 := Lib.hid by_
      clear hb bx by_
      have hk : k1 = 4 := HSF.out
      subst hk
      go_wp2
      go_ret
      exact ⟨by first | rfl | simp, HB.out⟩
    obtain ⟨x, hx⟩ : ∃ x, hs5[i]? = some x := ⟨_, List.getElem?_eq_getElem hin⟩
    obtain ⟨a1, o1, rfl, hal, d0, d1, d2⟩ := HRD.out i x hx
    have d0 := (HQ.out.cell (p := ⟨a1, _, none⟩) (show a1 < w7.heap.size by omega)).trans d0
    have d1 := (HQ.out.cell (p := ⟨a1, _, none⟩) (show a1 < w7.heap.size by omega)).trans d1
    have d2 := (HQ.out.cell (p := ⟨a1, _, none⟩) (show a1 < w7.heap.size by omega)).trans d2
    have g1 : (i : Int) < (hs5.length : Int) := by omega
    have g2 : 0 ≤ (i : Int) := by omega
    have hmx : x ∈ aH (acctSwept (id, lim, pos, most, sum, hs, (sp, hd, cs, ss), sl) now) := by rw [← HS5.out]; exact List.mem_of_getElem? hx
    have hxs : x.1.size ≤ maxLen := by have := HFW5.out.hi x (List.mem_of_getElem? hx); unfold maxLen; omega
    have HMF := Lib.hid (move_facts HOK.out HOK9.out (show aId (id, lim, pos, most, sum, hs, (sp, hd, cs, ss), sl) ≠ aId (id9, lim9, pos9, most9, sum9, hs9, (sp9, hd9, cs9, ss9), sl9) from HNE.out) HTM.out hmx)
    rw [← HS6.out, ← HS5.out] at HMF
    clear hx hmx
    obtain ⟨xi, xa, xd⟩ := x
    try simp only at d0 d1 d2 hxs HMF
    go_upto_region 10 with fail
    obtain ⟨w101, hW⟩ : ∃ V, V = wr.alloc (.cells #[.string xi, .int .i64 xa, .int .i64 xd] 33) := ⟨_, rfl⟩
    have bx : bk w101 wr.heap.size 33 [.string xi, .int .i64 xa, .int .i64 xd] := by rw [hW]; exact bk.new wr _ _
    have hb : Below wr.heap.size wr w101 := by rw [hW]; exact (Below.refl _ _).alloc (Nat.le_refl _) _
    rw [← hW]
    clear hW
    have z101 := bx.lt
    have y101 := hb.size
    replace BA := Lib.hid (BA.out.below hb (by omega))
    replace BB := Lib.hid (BB.out.below hb (by omega))
    replace BS := Lib.hid (BS.out.below hb (by omega))
    replace BT := Lib.hid (BT.out.below hb (by omega))
    replace HA := Lib.hid (Rep.below (R := AcctR) HA.out hb (by omega))
    replace HA9 := Lib.hid (Rep.below (R := AcctR) HA9.out hb (by omega))
    replace HA5 := Lib.hid (Rep.below (R := AcctR) HA5.out hb (by omega))
    replace HA6 := Lib.hid (Rep.below (R := AcctR) HA6.out hb (by omega))
    replace HQ := Lib.hid (HQ.out.trans (hb.mono (by omega)))
    replace HB : Hid (Below w.heap.size w w101) := Lib.hid (HB.out.trans (hb.mono (by omega)))
    have BH := Lib.hid bx
    clear hb bx
    clear d0 d1 d2 g1 g2
    have HC := Lib.hid (implMoveR_any w1.heap.size _ _ _ _ (id, lim, pos, most, sum, hs, (sp, hd, cs, ss), sl) _ _ _ _ (id9, lim9, pos9, most9, sum9, hs9, (sp9, hd9, cs9, ss9), sl9) xi now w101 (HH.out _ HB.out) (few_small HFW.out) (few_big HFW.out) HA.out (few_small HFW9.out) (few_big HFW9.out) HA9.out (by omega) hxs)
    try simp only [aId, aLim, aPos, aMost, aSum] at HC
    have HFM := Lib.hid (few_move (id, lim, pos, most, sum, hs, (sp, hd, cs, ss), sl) (id9, lim9, pos9, most9, sum9, hs9, (sp9, hd9, cs9, ss9), sl9) xi now)
    obtain ⟨⟨⟨id1, lim1, pos1, most1, sum1, hs1, ⟨sp1, hd1, cs1, ss1⟩, sl1⟩, ⟨id2, lim2, pos2, most2, sum2, hs2, ⟨sp2, hd2, cs2, ss2⟩, sl2⟩, k1⟩, hr⟩ : ∃ r, r = moveL (id, lim, pos, most, sum, hs, (sp, hd, cs, ss), sl) (id9, lim9, pos9, most9, sum9, hs9, (sp9, hd9, cs9, ss9), sl9) xi now := ⟨_, rfl⟩
    rw [← hr] at HC HFM HMF
    clear hr
    have HFW1 := Lib.hid HFM.out.1
    have HFW2 := Lib.hid HFM.out.2
    clear HFM
    obtain ⟨⟨p0, p1, p2, p3, p4, p5, p6, p7, p8, p9, p10⟩, -⟩ := BA.out.eleven
    obtain ⟨⟨t0, t1, t2, t3, t4, t5, t6, t7, t8, t9, t10⟩, -⟩ := BB.out.eleven
    obtain ⟨q0, q1, q2⟩ := BH.out.cells3
    go_wp2_with fail
    refine (HC.out).mono ?_
    rintro e w102 ⟨vh, vc, vs, vl, vh2, vc2, vs2, vl2, rfl, hm, hm2, hb⟩
    have z102 := hb.size
    replace BA := Lib.hid (BA.out.below hb (by omega))
    replace BB := Lib.hid (BB.out.below hb (by omega))
    replace BS := Lib.hid (BS.out.below hb (by omega))
    replace BT := Lib.hid (BT.out.below hb (by omega))
    replace HA := Lib.hid (Rep.below (R := AcctR) HA.out hb (by omega))
    replace HA9 := Lib.hid (Rep.below (R := AcctR) HA9.out hb (by omega))
    replace HA5 := Lib.hid (Rep.below (R := AcctR) HA5.out hb (by omega))
    replace HA6 := Lib.hid (Rep.below (R := AcctR) HA6.out hb (by omega))
    replace BH := Lib.hid (BH.out.below hb (by omega))
    replace HQ := Lib.hid (HQ.out.trans (hb.mono (by omega)))
    replace HB : Hid (Below w.heap.size w w102) := Lib.hid (HB.out.trans (hb.mono (by omega)))
    clear hb HC p0 p1 p2 p3 p4 p5 p6 p7 p8 p9 p10 t0 t1 t2 t3 t4 t5 t6 t7 t8 t9 t10 q0 q1 q2
    try simp only [aId, aLim, aPos, aMost, aSum]
    obtain ⟨xh, xc, xs, xl, hcs, r1, r2, r3, r4⟩ := acct_rd hm.rd
    try simp only [aCells, List.cons.injEq, and_true, true_and] at hcs
    obtain ⟨rfl, rfl, rfl, rfl⟩ := hcs
    obtain ⟨AH1, cH1, rfl, -⟩ := Rep.slice_form r1
    obtain ⟨AL1, cL1, rfl, -⟩ := Rep.slice_form r4
    obtain ⟨AC1, cC1, rfl, -⟩ := r2.form
    obtain ⟨AS1, cS1, rfl, -⟩ := r3.form
    clear r1 r2 r3 r4
    obtain ⟨xh, xc, xs, xl, hcs, r1, r2, r3, r4⟩ := acct_rd hm2.rd
    try simp only [aCells, List.cons.injEq, and_true, true_and] at hcs
    obtain ⟨rfl, rfl, rfl, rfl⟩ := hcs
    obtain ⟨AH2, cH2, rfl, -⟩ := Rep.slice_form r1
    obtain ⟨AL2, cL2, rfl, -⟩ := Rep.slice_form r4
    obtain ⟨AC2, cC2, rfl, -⟩ := r2.form
    obtain ⟨AS2, cS2, rfl, -⟩ := r3.form
    try simp only [aH, aS]
    have HA1 := Lib.hid hm.rd
    have HA2 := Lib.hid hm2.rd
    clear r1 r2 r3 r4 hm hm2
    go_upto_region 11 with fail
    obtain ⟨w103, hW⟩ : ∃ V, V = (w102.alloc (.cells #[.string id1, .int .i64 lim1, .int .i64 pos1, .int .i64 most1, .int .i64 sum1, .slice AH1 hs1.length cH1, .int .i64 sp1, .int .i64 hd1, .slice AC1 cs1.length cC1, .slice AS1 ss1.length cS1, .slice AL1 sl1.length cL1] 29)).alloc (.cells #[.string id2, .int .i64 lim2, .int .i64 pos2, .int .i64 most2, .int .i64 sum2, .slice AH2 hs2.length cH2, .int .i64 sp2, .int .i64 hd2, .slice AC2 cs2.length cC2, .slice AS2 ss2.length cS2, .slice AL2 sl2.length cL2] 29) := ⟨_, rfl⟩
    have bx : bk w103 w102.heap.size 29 [.string id1, .int .i64 lim1, .int .i64 pos1, .int .i64 most1, .int .i64 sum1, .slice AH1 hs1.length cH1, .int .i64 sp1, .int .i64 hd1, .slice AC1 cs1.length cC1, .slice AS1 ss1.length cS1, .slice AL1 sl1.length cL1] := by rw [hW]; exact (bk.new w102 _ _).alloc _
    have by_ : bk w103 (w102.heap.size + 1) 29 [.string id2, .int .i64 lim2, .int .i64 pos2, .int .i64 most2, .int .i64 sum2, .slice AH2 hs2.length cH2, .int .i64 sp2, .int .i64 hd2, .slice AC2 cs2.length cC2, .slice AS2 ss2.length cS2, .slice AL2 sl2.length cL2] := by rw [hW]; simpa using bk.new (w102.alloc (.cells #[.string id1, .int .i64 lim1, .int .i64 pos1, .int .i64 most1, .int .i64 sum1, .slice AH1 hs1.length cH1, .int .i64 sp1, .int .i64 hd1, .slice AC1 cs1.length cC1, .slice AS1 ss1.length cS1, .slice AL1 sl1.length cL1] 29)) 29 [.string id2, .int .i64 lim2, .int .i64 pos2, .int .i64 most2, .int .i64 sum2, .slice AH2 hs2.length cH2, .int .i64 sp2, .int .i64 hd2, .slice AC2 cs2.length cC2, .slice AS2 ss2.length cS2, .slice AL2 sl2.length cL2]
    have hb : Below w102.heap.size w102 w103 := by rw [hW]; exact ((Below.refl _ _).alloc (Nat.le_refl _) _).alloc (by simp) _
    rw [← hW]
    clear hW
    have z103 := by_.lt
    have y103 := hb.size
    replace BA := Lib.hid (BA.out.below hb (by omega))
    replace BB := Lib.hid (BB.out.below hb (by omega))
    replace BS := Lib.hid (BS.out.below hb (by omega))
    replace BT := Lib.hid (BT.out.below hb (by omega))
    replace HA := Lib.hid (Rep.below (R := AcctR) HA.out hb (by omega))
    replace HA9 := Lib.hid (Rep.below (R := AcctR) HA9.out hb (by omega))
    replace HA5 := Lib.hid (Rep.below (R := AcctR) HA5.out hb (by omega))
    replace HA6 := Lib.hid (Rep.below (R := AcctR) HA6.out hb (by omega))
    replace BH := Lib.hid (BH.out.below hb (by omega))
    replace HA1 := Lib.hid (Rep.below (R := AcctR) HA1.out hb (by omega))
    replace HA2 := Lib.hid (Rep.below (R := AcctR) HA2.out hb (by omega))
    replace HQ := Lib.hid (HQ.out.trans (hb.mono (by omega)))
    replace HB : Hid (Below w.heap.size w w103) := Lib.hid (HB.out.trans (hb.mono (by omega)))
    have BX := Lib.hid bx
    have BY := Lib.hid by_
    clear hb bx by_
    try simp only [aId, aH] at HMF
    obtain ⟨rm, hrm⟩ : ∃ r, r = roomOf (id9, lim9, pos9, most9, sum9, hs9, (sp9, hd9, cs9, ss9), sl9) now := ⟨_, rfl⟩
    have HRMM := Lib.hid hrm
    rw [← hrm] at HMF
    clear hrm
    by_cases hk : k1 = 0
    rotate_left
    · have hne : (k1 != 0) = true := by simpa using hk
      obtain ⟨i1, i2, hno⟩ := HMF.out.1 hk
      subst i1
      subst i2
      have HNO := Lib.hid hno
      clear hno HMF hk
      obtain ⟨xh, xc, xs, xl, hcs, y1, -, -, -⟩ := acct_rd HA6.out
      try simp only [aCells, List.cons.injEq, and_true, true_and] at hcs
      obtain ⟨rfl, -, -, -⟩ := hcs
      try simp only [aH] at y1
      have HHA := Lib.hid (fun V (hV : Ext w103 V) => implHoldAt_any w6.heap.size _ hs6 xi V (Nat.le_trans HFW6.out.h (by omega)) (Rep.below (R := HoldsR) y1 hV.below (by omega)) (Nat.le_trans (by omega) hV.below.size))
      clear y1
      generalize findH hs6 xi = fh at HHA HNO
      have HRB : Hid (∀ V, Ext w103 V → Calls Tryz.prog 22 #[.agg #[.string id9, .int .i64 lim9, .int .i64 pos9, .int .i64 most9, .int .i64 sum9, .slice AH9 hs9.length cH9, .int .i64 sp9, .int .i64 hd9, .slice AC9 cs9.length cC9, .slice AS9 ss9.length cS9, .slice AL9 sl9.length cL9], .int .i64 now] V fun e w' => e = .returned (.int .i64 rm) ∧ Below V.heap.size V w') := Lib.hid fun V hV => by have := implRoom_any w1.heap.size _ _ _ _ (id9, lim9, pos9, most9, sum9, hs9, (sp9, hd9, cs9, ss9), sl9) now V (HH.out V (HB.out.trans (hV.below.mono (by omega)))) (few_small HFW9.out) (few_big HFW9.out) (Rep.below (R := AcctR) HA9.out hV.below (by omega)) (Nat.le_trans (by omega) hV.below.size); rw [← HRMM.out] at this; exact this
      go_upto_region 12 with fail
      by_cases c1 : fh < 0
      rotate_left
      · have c1d : decide (fh < 0) = false := decide_eq_false c1
        have A0 := Lib.hid (BX.out.eleven.1.1)
        have B0 := Lib.hid (BY.out.eleven.1.1)
        have C5 := Lib.hid (BT.out.eleven.1.2.2.2.2.2.1)
        have H0 := Lib.hid (BH.out.cells3.1)
        have H1 := Lib.hid (BH.out.cells3.2.1)
        have H2 := Lib.hid (BH.out.cells3.2.2)
        have E0 := Lib.hid (BB.out.eleven.1.1)
        have E1 := Lib.hid (BB.out.eleven.1.2.1)
        have E2 := Lib.hid (BB.out.eleven.1.2.2.1)
        have E3 := Lib.hid (BB.out.eleven.1.2.2.2.1)
        have E4 := Lib.hid (BB.out.eleven.1.2.2.2.2.1)
        have E5 := Lib.hid (BB.out.eleven.1.2.2.2.2.2.1)
        have E6 := Lib.hid (BB.out.eleven.1.2.2.2.2.2.2.1)
        have E7 := Lib.hid (BB.out.eleven.1.2.2.2.2.2.2.2.1)
        have E8 := Lib.hid (BB.out.eleven.1.2.2.2.2.2.2.2.2.1)
        have E9 := Lib.hid (BB.out.eleven.1.2.2.2.2.2.2.2.2.2.1)
        have E10 := Lib.hid (BB.out.eleven.1.2.2.2.2.2.2.2.2.2.2)
        refine quiet_region (C := Ext w103) (by kernel_rfl) (by kernel_rfl) (Ext.refl w103).drew ?_
        repeat (first
          | go_big_quiet_skip
          | (go_big_quiet_want; go_big_quiet_op; go_big_quiet_on)
          | (go_big_quiet_want; go_big_quiet_op; apply Exists.intro; refine ⟨fun _ _ => rfl, ?_⟩; go_big_quiet_on)
          | (go_big_quiet_want
             apply Exists.intro
             refine ⟨fun V hV => ?_, ?_⟩
             (have l0 := hV.cell A0.out (by omega)
              unfold Oper.quietAt
              go_simp
              rfl)
             try simp only [Act.put, List.setIfInBounds_toArray, List.set_cons_zero, List.set_cons_succ]
             go_big_quiet_on)
          | (go_big_quiet_want
             apply Exists.intro
             refine ⟨fun V hV => ?_, ?_⟩
             (have l0 := hV.cell B0.out (by omega)
              unfold Oper.quietAt
              go_simp
              rfl)
             try simp only [Act.put, List.setIfInBounds_toArray, List.set_cons_zero, List.set_cons_succ]
             go_big_quiet_on)
          | (go_big_quiet_want
             apply Exists.intro
             refine ⟨fun V hV => ?_, ?_⟩
             (have l5 := hV.cell C5.out (by omega)
              unfold Oper.quietAt
              go_simp
              rfl)
             try simp only [Act.put, List.setIfInBounds_toArray, List.set_cons_zero, List.set_cons_succ]
             go_big_quiet_on)
          | (go_big_quiet_want
             apply Exists.intro
             refine ⟨fun V hV => ?_, ?_⟩
             (have l0 := hV.cell H0.out (by omega)
              have l1 := hV.cell H1.out (by omega)
              have l2 := hV.cell H2.out (by omega)
              unfold Oper.quietAt
              go_simp
              rfl)
             try simp only [Act.put, List.setIfInBounds_toArray, List.set_cons_zero, List.set_cons_succ]
             go_big_quiet_on)
          | (go_big_quiet_want
             apply Exists.intro
             refine ⟨fun V hV => ?_, ?_⟩
             (have l0 := hV.cell E0.out (by omega)
              have l1 := hV.cell E1.out (by omega)
              have l2 := hV.cell E2.out (by omega)
              have l3 := hV.cell E3.out (by omega)
              have l4 := hV.cell E4.out (by omega)
              have l5 := hV.cell E5.out (by omega)
              have l6 := hV.cell E6.out (by omega)
              have l7 := hV.cell E7.out (by omega)
              have l8 := hV.cell E8.out (by omega)
              have l9 := hV.cell E9.out (by omega)
              have l10 := hV.cell E10.out (by omega)
              unfold Oper.quietAt
              go_simp
              rfl)
             try simp only [Act.put, List.setIfInBounds_toArray, List.set_cons_zero, List.set_cons_succ]
             go_big_quiet_on)
          | (go_big_quiet_want
             apply Exists.intro
             refine ⟨fun V hV => ?_, ?_⟩
             (unfold Oper.quietAt
              go_simp
              go_at_call 30
              (with_reducible refine (HHA.out V hV).mono ?_)
              rintro e w4 ⟨rfl, hb4⟩
              exact ⟨rfl, hV.step hb4⟩)
             try simp only [Act.put, List.setIfInBounds_toArray, List.set_cons_zero, List.set_cons_succ]
             go_big_quiet_on)
          | (go_big_quiet_want
             apply Exists.intro
             refine ⟨fun V hV => ?_, ?_⟩
             (unfold Oper.quietAt
              go_simp
              go_at_call 22
              (with_reducible refine (HRB.out V hV).mono ?_)
              rintro e w4 ⟨rfl, hb4⟩
              exact ⟨rfl, hV.step hb4⟩)
             try simp only [Act.put, List.setIfInBounds_toArray, List.set_cons_zero, List.set_cons_succ]
             go_big_quiet_on)
          | fail)
        refine wpQuiet_nil ?_
        intro w77 hw77
        obtain ⟨w104, hW⟩ : ∃ V, V = w77 := ⟨_, rfl⟩
        rw [← hW] at hw77 ⊢
        clear hW
        have hb : Below w103.heap.size w103 w104 := hw77.below
        have z104 := hb.size
        replace BA := Lib.hid (BA.out.below hb (by omega))
        replace BB := Lib.hid (BB.out.below hb (by omega))
        replace BS := Lib.hid (BS.out.below hb (by omega))
        replace BT := Lib.hid (BT.out.below hb (by omega))
        replace HA := Lib.hid (Rep.below (R := AcctR) HA.out hb (by omega))
        replace HA9 := Lib.hid (Rep.below (R := AcctR) HA9.out hb (by omega))
        replace HA5 := Lib.hid (Rep.below (R := AcctR) HA5.out hb (by omega))
        replace HA6 := Lib.hid (Rep.below (R := AcctR) HA6.out hb (by omega))
        replace BH := Lib.hid (BH.out.below hb (by omega))
        replace HA1 := Lib.hid (Rep.below (R := AcctR) HA1.out hb (by omega))
        replace HA2 := Lib.hid (Rep.below (R := AcctR) HA2.out hb (by omega))
        replace BX := Lib.hid (BX.out.below hb (by omega))
        replace BY := Lib.hid (BY.out.below hb (by omega))
        replace HQ := Lib.hid (HQ.out.trans (hb.mono (by omega)))
        replace HB : Hid (Below w.heap.size w w104) := Lib.hid (HB.out.trans (hb.mono (by omega)))
        clear hb hw77 A0 B0 C5 H0 H1 H2 E0 E1 E2 E3 E4 E5 E6 E7 E8 E9 E10
        clear HHA HRB
        go_wp2
        go_roundw
        case rel => exact ⟨i + 1, by omega, by go_num, HQ⟩
        case measure => simp [intOf] <;> omega
      have c1d : decide (fh < 0) = true := decide_eq_true c1
      by_cases c2 : (hs6.length : Int) < 4
      rotate_left
      · have c2d : decide ((hs6.length : Int) < 4) = false := decide_eq_false c2
        have A0 := Lib.hid (BX.out.eleven.1.1)
        have B0 := Lib.hid (BY.out.eleven.1.1)
        have C5 := Lib.hid (BT.out.eleven.1.2.2.2.2.2.1)
        have H0 := Lib.hid (BH.out.cells3.1)
        have H1 := Lib.hid (BH.out.cells3.2.1)
        have H2 := Lib.hid (BH.out.cells3.2.2)
        have E0 := Lib.hid (BB.out.eleven.1.1)
        have E1 := Lib.hid (BB.out.eleven.1.2.1)
        have E2 := Lib.hid (BB.out.eleven.1.2.2.1)
        have E3 := Lib.hid (BB.out.eleven.1.2.2.2.1)
        have E4 := Lib.hid (BB.out.eleven.1.2.2.2.2.1)
        have E5 := Lib.hid (BB.out.eleven.1.2.2.2.2.2.1)
        have E6 := Lib.hid (BB.out.eleven.1.2.2.2.2.2.2.1)
        have E7 := Lib.hid (BB.out.eleven.1.2.2.2.2.2.2.2.1)
        have E8 := Lib.hid (BB.out.eleven.1.2.2.2.2.2.2.2.2.1)
        have E9 := Lib.hid (BB.out.eleven.1.2.2.2.2.2.2.2.2.2.1)
        have E10 := Lib.hid (BB.out.eleven.1.2.2.2.2.2.2.2.2.2.2)
        refine quiet_region (C := Ext w103) (by kernel_rfl) (by kernel_rfl) (Ext.refl w103).drew ?_
        repeat (first
          | go_big_quiet_skip
          | (go_big_quiet_want; go_big_quiet_op; go_big_quiet_on)
          | (go_big_quiet_want; go_big_quiet_op; apply Exists.intro; refine ⟨fun _ _ => rfl, ?_⟩; go_big_quiet_on)
          | (go_big_quiet_want
             apply Exists.intro
             refine ⟨fun V hV => ?_, ?_⟩
             (have l0 := hV.cell A0.out (by omega)
              unfold Oper.quietAt
              go_simp
              rfl)
             try simp only [Act.put, List.setIfInBounds_toArray, List.set_cons_zero, List.set_cons_succ]
             go_big_quiet_on)
          | (go_big_quiet_want
             apply Exists.intro
             refine ⟨fun V hV => ?_, ?_⟩
             (have l0 := hV.cell B0.out (by omega)
              unfold Oper.quietAt
              go_simp
              rfl)
             try simp only [Act.put, List.setIfInBounds_toArray, List.set_cons_zero, List.set_cons_succ]
             go_big_quiet_on)
          | (go_big_quiet_want
             apply Exists.intro
             refine ⟨fun V hV => ?_, ?_⟩
             (have l5 := hV.cell C5.out (by omega)
              unfold Oper.quietAt
              go_simp
              rfl)
             try simp only [Act.put, List.setIfInBounds_toArray, List.set_cons_zero, List.set_cons_succ]
             go_big_quiet_on)
          | (go_big_quiet_want
             apply Exists.intro
             refine ⟨fun V hV => ?_, ?_⟩
             (have l0 := hV.cell H0.out (by omega)
              have l1 := hV.cell H1.out (by omega)
              have l2 := hV.cell H2.out (by omega)
              unfold Oper.quietAt
              go_simp
              rfl)
             try simp only [Act.put, List.setIfInBounds_toArray, List.set_cons_zero, List.set_cons_succ]
             go_big_quiet_on)
          | (go_big_quiet_want
             apply Exists.intro
             refine ⟨fun V hV => ?_, ?_⟩
             (have l0 := hV.cell E0.out (by omega)
              have l1 := hV.cell E1.out (by omega)
              have l2 := hV.cell E2.out (by omega)
              have l3 := hV.cell E3.out (by omega)
              have l4 := hV.cell E4.out (by omega)
              have l5 := hV.cell E5.out (by omega)
              have l6 := hV.cell E6.out (by omega)
              have l7 := hV.cell E7.out (by omega)
              have l8 := hV.cell E8.out (by omega)
              have l9 := hV.cell E9.out (by omega)
              have l10 := hV.cell E10.out (by omega)
              unfold Oper.quietAt
              go_simp
              rfl)
             try simp only [Act.put, List.setIfInBounds_toArray, List.set_cons_zero, List.set_cons_succ]
             go_big_quiet_on)
          | (go_big_quiet_want
             apply Exists.intro
             refine ⟨fun V hV => ?_, ?_⟩
             (unfold Oper.quietAt
              go_simp
              go_at_call 30
              (with_reducible refine (HHA.out V hV).mono ?_)
              rintro e w4 ⟨rfl, hb4⟩
              exact ⟨rfl, hV.step hb4⟩)
             try simp only [Act.put, List.setIfInBounds_toArray, List.set_cons_zero, List.set_cons_succ]
             go_big_quiet_on)
          | (go_big_quiet_want
             apply Exists.intro
             refine ⟨fun V hV => ?_, ?_⟩
             (unfold Oper.quietAt
              go_simp
              go_at_call 22
              (with_reducible refine (HRB.out V hV).mono ?_)
              rintro e w4 ⟨rfl, hb4⟩
              exact ⟨rfl, hV.step hb4⟩)
             try simp only [Act.put, List.setIfInBounds_toArray, List.set_cons_zero, List.set_cons_succ]
             go_big_quiet_on)
          | fail)
        refine wpQuiet_nil ?_
        intro w77 hw77
        obtain ⟨w104, hW⟩ : ∃ V, V = w77 := ⟨_, rfl⟩
        rw [← hW] at hw77 ⊢
        clear hW
        have hb : Below w103.heap.size w103 w104 := hw77.below
        have z104 := hb.size
        replace BA := Lib.hid (BA.out.below hb (by omega))
        replace BB := Lib.hid (BB.out.below hb (by omega))
        replace BS := Lib.hid (BS.out.below hb (by omega))
        replace BT := Lib.hid (BT.out.below hb (by omega))
        replace HA := Lib.hid (Rep.below (R := AcctR) HA.out hb (by omega))
        replace HA9 := Lib.hid (Rep.below (R := AcctR) HA9.out hb (by omega))
        replace HA5 := Lib.hid (Rep.below (R := AcctR) HA5.out hb (by omega))
        replace HA6 := Lib.hid (Rep.below (R := AcctR) HA6.out hb (by omega))
        replace BH := Lib.hid (BH.out.below hb (by omega))
        replace HA1 := Lib.hid (Rep.below (R := AcctR) HA1.out hb (by omega))
        replace HA2 := Lib.hid (Rep.below (R := AcctR) HA2.out hb (by omega))
        replace BX := Lib.hid (BX.out.below hb (by omega))
        replace BY := Lib.hid (BY.out.below hb (by omega))
        replace HQ := Lib.hid (HQ.out.trans (hb.mono (by omega)))
        replace HB : Hid (Below w.heap.size w w104) := Lib.hid (HB.out.trans (hb.mono (by omega)))
        clear hb hw77 A0 B0 C5 H0 H1 H2 E0 E1 E2 E3 E4 E5 E6 E7 E8 E9 E10
        clear HHA HRB
        go_wp2
        go_roundw
        case rel => exact ⟨i + 1, by omega, by go_num, HQ⟩
        case measure => simp [intOf] <;> omega
      have c2d : decide ((hs6.length : Int) < 4) = true := decide_eq_true c2
      have c3d : decide (xa ≤ rm) = false := decide_eq_false fun c3 => HNO.out ⟨c1, by omega, c3⟩
      have A0 := Lib.hid (BX.out.eleven.1.1)
      have B0 := Lib.hid (BY.out.eleven.1.1)
      have C5 := Lib.hid (BT.out.eleven.1.2.2.2.2.2.1)
      have H0 := Lib.hid (BH.out.cells3.1)
      have H1 := Lib.hid (BH.out.cells3.2.1)
      have H2 := Lib.hid (BH.out.cells3.2.2)
      have E0 := Lib.hid (BB.out.eleven.1.1)
      have E1 := Lib.hid (BB.out.eleven.1.2.1)
      have E2 := Lib.hid (BB.out.eleven.1.2.2.1)
      have E3 := Lib.hid (BB.out.eleven.1.2.2.2.1)
      have E4 := Lib.hid (BB.out.eleven.1.2.2.2.2.1)
      have E5 := Lib.hid (BB.out.eleven.1.2.2.2.2.2.1)
      have E6 := Lib.hid (BB.out.eleven.1.2.2.2.2.2.2.1)
      have E7 := Lib.hid (BB.out.eleven.1.2.2.2.2.2.2.2.1)
      have E8 := Lib.hid (BB.out.eleven.1.2.2.2.2.2.2.2.2.1)
      have E9 := Lib.hid (BB.out.eleven.1.2.2.2.2.2.2.2.2.2.1)
      have E10 := Lib.hid (BB.out.eleven.1.2.2.2.2.2.2.2.2.2.2)
      refine quiet_region (C := Ext w103) (by kernel_rfl) (by kernel_rfl) (Ext.refl w103).drew ?_
      repeat (first
        | go_big_quiet_skip
        | (go_big_quiet_want; go_big_quiet_op; go_big_quiet_on)
        | (go_big_quiet_want; go_big_quiet_op; apply Exists.intro; refine ⟨fun _ _ => rfl, ?_⟩; go_big_quiet_on)
        | (go_big_quiet_want
           apply Exists.intro
           refine ⟨fun V hV => ?_, ?_⟩
           (have l0 := hV.cell A0.out (by omega)
            unfold Oper.quietAt
            go_simp
            rfl)
           try simp only [Act.put, List.setIfInBounds_toArray, List.set_cons_zero, List.set_cons_succ]
           go_big_quiet_on)
        | (go_big_quiet_want
           apply Exists.intro
           refine ⟨fun V hV => ?_, ?_⟩
           (have l0 := hV.cell B0.out (by omega)
            unfold Oper.quietAt
            go_simp
            rfl)
           try simp only [Act.put, List.setIfInBounds_toArray, List.set_cons_zero, List.set_cons_succ]
           go_big_quiet_on)
        | (go_big_quiet_want
           apply Exists.intro
           refine ⟨fun V hV => ?_, ?_⟩
           (have l5 := hV.cell C5.out (by omega)
            unfold Oper.quietAt
            go_simp
            rfl)
           try simp only [Act.put, List.setIfInBounds_toArray, List.set_cons_zero, List.set_cons_succ]
           go_big_quiet_on)
        | (go_big_quiet_want
           apply Exists.intro
           refine ⟨fun V hV => ?_, ?_⟩
           (have l0 := hV.cell H0.out (by omega)
            have l1 := hV.cell H1.out (by omega)
            have l2 := hV.cell H2.out (by omega)
            unfold Oper.quietAt
            go_simp
            rfl)
           try simp only [Act.put, List.setIfInBounds_toArray, List.set_cons_zero, List.set_cons_succ]
           go_big_quiet_on)
        | (go_big_quiet_want
           apply Exists.intro
           refine ⟨fun V hV => ?_, ?_⟩
           (have l0 := hV.cell E0.out (by omega)
            have l1 := hV.cell E1.out (by omega)
            have l2 := hV.cell E2.out (by omega)
            have l3 := hV.cell E3.out (by omega)
            have l4 := hV.cell E4.out (by omega)
            have l5 := hV.cell E5.out (by omega)
            have l6 := hV.cell E6.out (by omega)
            have l7 := hV.cell E7.out (by omega)
            have l8 := hV.cell E8.out (by omega)
            have l9 := hV.cell E9.out (by omega)
            have l10 := hV.cell E10.out (by omega)
            unfold Oper.quietAt
            go_simp
            rfl)
           try simp only [Act.put, List.setIfInBounds_toArray, List.set_cons_zero, List.set_cons_succ]
           go_big_quiet_on)
        | (go_big_quiet_want
           apply Exists.intro
           refine ⟨fun V hV => ?_, ?_⟩
           (unfold Oper.quietAt
            go_simp
            go_at_call 30
            (with_reducible refine (HHA.out V hV).mono ?_)
            rintro e w4 ⟨rfl, hb4⟩
            exact ⟨rfl, hV.step hb4⟩)
           try simp only [Act.put, List.setIfInBounds_toArray, List.set_cons_zero, List.set_cons_succ]
           go_big_quiet_on)
        | (go_big_quiet_want
           apply Exists.intro
           refine ⟨fun V hV => ?_, ?_⟩
           (unfold Oper.quietAt
            go_simp
            go_at_call 22
            (with_reducible refine (HRB.out V hV).mono ?_)
            rintro e w4 ⟨rfl, hb4⟩
            exact ⟨rfl, hV.step hb4⟩)
           try simp only [Act.put, List.setIfInBounds_toArray, List.set_cons_zero, List.set_cons_succ]
           go_big_quiet_on)
        | fail)
      refine wpQuiet_nil ?_
      intro w77 hw77
      obtain ⟨w104, hW⟩ : ∃ V, V = w77 := ⟨_, rfl⟩
      rw [← hW] at hw77 ⊢
      clear hW
      have hb : Below w103.heap.size w103 w104 := hw77.below
      have z104 := hb.size
      replace BA := Lib.hid (BA.out.below hb (by omega))
      replace BB := Lib.hid (BB.out.below hb (by omega))
      replace BS := Lib.hid (BS.out.below hb (by omega))
      replace BT := Lib.hid (BT.out.below hb (by omega))
      replace HA := Lib.hid (Rep.below (R := AcctR) HA.out hb (by omega))
      replace HA9 := Lib.hid (Rep.below (R := AcctR) HA9.out hb (by omega))
      replace HA5 := Lib.hid (Rep.below (R := AcctR) HA5.out hb (by omega))
      replace HA6 := Lib.hid (Rep.below (R := AcctR) HA6.out hb (by omega))
      replace BH := Lib.hid (BH.out.below hb (by omega))
      replace HA1 := Lib.hid (Rep.below (R := AcctR) HA1.out hb (by omega))
      replace HA2 := Lib.hid (Rep.below (R := AcctR) HA2.out hb (by omega))
      replace BX := Lib.hid (BX.out.below hb (by omega))
      replace BY := Lib.hid (BY.out.below hb (by omega))
      replace HQ := Lib.hid (HQ.out.trans (hb.mono (by omega)))
      replace HB : Hid (Below w.heap.size w w104) := Lib.hid (HB.out.trans (hb.mono (by omega)))
      clear hb hw77 A0 B0 C5 H0 H1 H2 E0 E1 E2 E3 E4 E5 E6 E7 E8 E9 E10
      clear HHA HRB
      go_wp2
      go_roundw
      case rel => exact ⟨i + 1, by omega, by go_num, HQ⟩
      case measure => simp [intOf] <;> omega
    subst hk
    obtain ⟨⟨k, f1, f2⟩, f3, f4, f5, f6⟩ := HMF.out.2 rfl
    clear HMF
    obtain ⟨xh, xc, xs, xl, hcs, y1, -, -, -⟩ := acct_rd HA2.out
    try simp only [aCells, List.cons.injEq, and_true, true_and] at hcs
    obtain ⟨rfl, -, -, -⟩ := hcs
    try simp only [aH] at y1
    obtain ⟨A0, c0, hv0, -, hr1⟩ := holds_rd y1
    try simp only [Value.slice.injEq, true_and] at hv0
    obtain ⟨rfl, rfl⟩ := hv0
    obtain ⟨b1, p1, rfl, hbl, d0, d1, d2⟩ := hr1 k _ f2
    have E0 := Lib.hid d0
    have E1 := Lib.hid d1
    have E2 := Lib.hid d2
    have hkl := (List.getElem?_eq_some_iff.1 f2).1
    clear y1 hr1 f2 d0 d1 d2
    have HF := Lib.hid (And.intro f1 (And.intro f3 (And.intro f4 (And.intro f5 f6))))
    clear f1 f3 f4 f5 f6
    have HBQ : Hid (Below w103.heap.size w103 w103) := Lib.hid (Below.refl _ _)
    obtain ⟨xh, xc, xs, xl, hcs, y1, -, -, -⟩ := acct_rd HA2.out
    try simp only [aCells, List.cons.injEq, and_true, true_and] at hcs
    obtain ⟨rfl, -, -, -⟩ := hcs
    try simp only [aH] at y1
    have HC := Lib.hid (specHoldAt_any w102.heap.size _ hs2 xi w103 (Nat.le_trans HFW2.out.h (by omega)) y1 (by omega))
    clear y1
    rw [HF.out.1] at HC
    obtain ⟨⟨m0, m1, m2, m3, m4, m5, m6, m7, m8, m9, m10⟩, -⟩ := BY.out.eleven
    obtain ⟨q0, q1, q2⟩ := BH.out.cells3
    go_wp2_with fail
    refine (HC.out).mono ?_
    rintro e w104 ⟨rfl, hb⟩
    have z104 := hb.size
    replace BA := Lib.hid (BA.out.below hb (by omega))
    replace BB := Lib.hid (BB.out.below hb (by omega))
    replace BS := Lib.hid (BS.out.below hb (by omega))
    replace BT := Lib.hid (BT.out.below hb (by omega))
    replace HA := Lib.hid (Rep.below (R := AcctR) HA.out hb (by omega))
    replace HA9 := Lib.hid (Rep.below (R := AcctR) HA9.out hb (by omega))
    replace HA5 := Lib.hid (Rep.below (R := AcctR) HA5.out hb (by omega))
    replace HA6 := Lib.hid (Rep.below (R := AcctR) HA6.out hb (by omega))
    replace BH := Lib.hid (BH.out.below hb (by omega))
    replace HA1 := Lib.hid (Rep.below (R := AcctR) HA1.out hb (by omega))
    replace HA2 := Lib.hid (Rep.below (R := AcctR) HA2.out hb (by omega))
    replace BX := Lib.hid (BX.out.below hb (by omega))
    replace BY := Lib.hid (BY.out.below hb (by omega))
    replace HQ := Lib.hid (HQ.out.trans (hb.mono (by omega)))
    replace HBQ := Lib.hid (HBQ.out.trans (hb.mono (by omega)))
    replace HB : Hid (Below w.heap.size w w104) := Lib.hid (HB.out.trans (hb.mono (by omega)))
    clear hb HC m0 m1 m2 m3 m4 m5 m6 m7 m8 m9 m10 q0 q1 q2
    replace E0 := Lib.hid ((HBQ.out.cell (p := ⟨b1, _, none⟩) (show b1 < w103.heap.size by omega)).trans E0.out)
    replace E1 := Lib.hid ((HBQ.out.cell (p := ⟨b1, _, none⟩) (show b1 < w103.heap.size by omega)).trans E1.out)
    replace E2 := Lib.hid ((HBQ.out.cell (p := ⟨b1, _, none⟩) (show b1 < w103.heap.size by omega)).trans E2.out)
    have hbl2 : b1 < w104.heap.size := by omega
    have k0 : decide ((k : Int) < 0) = false := decide_eq_false (by omega)
    have k1 : (k : Int) < (hs2.length : Int) := by omega
    have k2 : 0 ≤ (k : Int) := by omega
    have heq : ∀ V : World, (binOp .neq 33 (.agg #[.string xi, .int .i64 xa, .int .i64 xd]) (.agg #[.string xi, .int .i64 xa, .int .i64 xd])).run Tryz.prog V = .ok (.bool false) V := fun V => by have := holdNeq (xi, xa, xd) (xi, xa, xd) V; simpa using this
    obtain ⟨xh, xc, xs, xl, hcs, y1, -, -, -⟩ := acct_rd HA1.out
    try simp only [aCells, List.cons.injEq, and_true, true_and] at hcs
    obtain ⟨rfl, -, -, -⟩ := hcs
    try simp only [aH] at y1
    have HHA := Lib.hid (fun V (hV : Ext w104 V) => implHoldAt_any w102.heap.size _ hs1 xi V (Nat.le_trans HFW1.out.h (by omega)) (Rep.below (R := HoldsR) y1 hV.below (by omega)) (Nat.le_trans (by omega) hV.below.size))
    clear y1
    obtain ⟨fh, hfh⟩ : ∃ r, r = findH hs1 xi := ⟨_, rfl⟩
    rw [← hfh] at HHA
    have hfd : decide (fh ≥ 0) = false := decide_eq_false (by have := HF.out.2.1; omega)
    clear hfh
    obtain ⟨xh, xc, xs, xl, hcs, y1, -, -, -⟩ := acct_rd HA1.out
    try simp only [aCells, List.cons.injEq, and_true, true_and] at hcs
    obtain ⟨rfl, -, -, -⟩ := hcs
    try simp only [aH] at y1
    have HT1 := Lib.hid (fun V (hV : Ext w104 V) => implStored_any w102.heap.size _ hs1 V (HH.out V (HB.out.trans (hV.below.mono (by omega)))) (Nat.le_trans HFW1.out.h (by omega)) (Rep.below (R := HoldsR) y1 hV.below (by omega)) (Nat.le_trans (by omega) hV.below.size))
    clear y1
    obtain ⟨xh, xc, xs, xl, hcs, y1, -, -, -⟩ := acct_rd HA2.out
    try simp only [aCells, List.cons.injEq, and_true, true_and] at hcs
    obtain ⟨rfl, -, -, -⟩ := hcs
    try simp only [aH] at y1
    have HT2 := Lib.hid (fun V (hV : Ext w104 V) => implStored_any w102.heap.size _ hs2 V (HH.out V (HB.out.trans (hV.below.mono (by omega)))) (Nat.le_trans HFW2.out.h (by omega)) (Rep.below (R := HoldsR) y1 hV.below (by omega)) (Nat.le_trans (by omega) hV.below.size))
    clear y1
    obtain ⟨xh, xc, xs, xl, hcs, y1, -, -, -⟩ := acct_rd HA5.out
    try simp only [aCells, List.cons.injEq, and_true, true_and] at hcs
    obtain ⟨rfl, -, -, -⟩ := hcs
    try simp only [aH] at y1
    have HT5 := Lib.hid (fun V (hV : Ext w104 V) => implStored_any w4.heap.size _ hs5 V (HH.out V (HB.out.trans (hV.below.mono (by omega)))) (Nat.le_trans HFW5.out.h (by omega)) (Rep.below (R := HoldsR) y1 hV.below (by omega)) (Nat.le_trans (by omega) hV.below.size))
    clear y1
    obtain ⟨xh, xc, xs, xl, hcs, y1, -, -, -⟩ := acct_rd HA6.out
    try simp only [aCells, List.cons.injEq, and_true, true_and] at hcs
    obtain ⟨rfl, -, -, -⟩ := hcs
    try simp only [aH] at y1
    have HT6 := Lib.hid (fun V (hV : Ext w104 V) => implStored_any w6.heap.size _ hs6 V (HH.out V (HB.out.trans (hV.below.mono (by omega)))) (Nat.le_trans HFW6.out.h (by omega)) (Rep.below (R := HoldsR) y1 hV.below (by omega)) (Nat.le_trans (by omega) hV.below.size))
    clear y1
    have hb1 : 0 ≤ storedL hs1 ∧ storedL hs1 ≤ 36028797018963968 := by have hh := (acctOk_iff.1 HF.out.2.2.2.1).2.2.2.2.2.1; have hh2 := sumH_range hh; rw [← storedL_sum hh] at hh2; exact hh2
    obtain ⟨su, hsue⟩ : ∃ r, r = storedL hs1 := ⟨_, rfl⟩
    have hqu := HF.out.2.2.1
    rw [← hsue] at HT1 hb1 hqu
    clear hsue
    have hb2 : 0 ≤ storedL hs2 ∧ storedL hs2 ≤ 36028797018963968 := by have hh := (acctOk_iff.1 HF.out.2.2.2.2).2.2.2.2.2.1; have hh2 := sumH_range hh; rw [← storedL_sum hh] at hh2; exact hh2
    obtain ⟨sv, hsve⟩ : ∃ r, r = storedL hs2 := ⟨_, rfl⟩
    skip
    rw [← hsve] at HT2 hb2 hqu
    clear hsve
    have hb5 := storedL_range hs5
    obtain ⟨sx, hsxe⟩ : ∃ r, r = storedL hs5 := ⟨_, rfl⟩
    skip
    rw [← hsxe] at HT5 hb5 hqu
    clear hsxe
    have hb6 := storedL_range hs6
    obtain ⟨sy, hsye⟩ : ∃ r, r = storedL hs6 := ⟨_, rfl⟩
    skip
    rw [← hsye] at HT6 hb6 hqu
    clear hsye
    have hwa : IntKind.i64.wrap (su + sv) = su + sv := IntWalk.i64_in _ (by omega)
    have hwb : IntKind.i64.wrap (sx + sy) = su + sv := by rw [← hqu]; exact hwa
    clear hqu hb1 hb2 hb5 hb6
    have HO1 := Lib.hid (fun V (hV : Ext w104 V) => implAcctOk_any w102.heap.size _ _ _ _ (id1, lim1, pos1, most1, sum1, hs1, (sp1, hd1, cs1, ss1), sl1) V (HH.out V (HB.out.trans (hV.below.mono (by omega)))) (few_small HFW1.out) (few_big HFW1.out) (Rep.below (R := AcctR) HA1.out hV.below (by omega)) (Nat.le_trans (by omega) hV.below.size))
    rw [HF.out.2.2.2.1] at HO1
    try simp only [aId, aLim, aPos, aMost, aSum] at HO1
    have HO2 := Lib.hid (fun V (hV : Ext w104 V) => implAcctOk_any w102.heap.size _ _ _ _ (id2, lim2, pos2, most2, sum2, hs2, (sp2, hd2, cs2, ss2), sl2) V (HH.out V (HB.out.trans (hV.below.mono (by omega)))) (few_small HFW2.out) (few_big HFW2.out) (Rep.below (R := AcctR) HA2.out hV.below (by omega)) (Nat.le_trans (by omega) hV.below.size))
    rw [HF.out.2.2.2.2] at HO2
    try simp only [aId, aLim, aPos, aMost, aSum] at HO2
    go_upto_region 15 with fail
    have A0 := Lib.hid (BX.out.eleven.1.1)
    have A1 := Lib.hid (BX.out.eleven.1.2.1)
    have A2 := Lib.hid (BX.out.eleven.1.2.2.1)
    have A3 := Lib.hid (BX.out.eleven.1.2.2.2.1)
    have A4 := Lib.hid (BX.out.eleven.1.2.2.2.2.1)
    have A5 := Lib.hid (BX.out.eleven.1.2.2.2.2.2.1)
    have A6 := Lib.hid (BX.out.eleven.1.2.2.2.2.2.2.1)
    have A7 := Lib.hid (BX.out.eleven.1.2.2.2.2.2.2.2.1)
    have A8 := Lib.hid (BX.out.eleven.1.2.2.2.2.2.2.2.2.1)
    have A9 := Lib.hid (BX.out.eleven.1.2.2.2.2.2.2.2.2.2.1)
    have A10 := Lib.hid (BX.out.eleven.1.2.2.2.2.2.2.2.2.2.2)
    have B0 := Lib.hid (BY.out.eleven.1.1)
    have B1 := Lib.hid (BY.out.eleven.1.2.1)
    have B2 := Lib.hid (BY.out.eleven.1.2.2.1)
    have B3 := Lib.hid (BY.out.eleven.1.2.2.2.1)
    have B4 := Lib.hid (BY.out.eleven.1.2.2.2.2.1)
    have B5 := Lib.hid (BY.out.eleven.1.2.2.2.2.2.1)
    have B6 := Lib.hid (BY.out.eleven.1.2.2.2.2.2.2.1)
    have B7 := Lib.hid (BY.out.eleven.1.2.2.2.2.2.2.2.1)
    have B8 := Lib.hid (BY.out.eleven.1.2.2.2.2.2.2.2.2.1)
    have B9 := Lib.hid (BY.out.eleven.1.2.2.2.2.2.2.2.2.2.1)
    have B10 := Lib.hid (BY.out.eleven.1.2.2.2.2.2.2.2.2.2.2)
    have C5 := Lib.hid (BS.out.eleven.1.2.2.2.2.2.1)
    have E5 := Lib.hid (BT.out.eleven.1.2.2.2.2.2.1)
    have H0 := Lib.hid (BH.out.cells3.1)
    have H1 := Lib.hid (BH.out.cells3.2.1)
    have H2 := Lib.hid (BH.out.cells3.2.2)
    refine quiet_region (C := Ext w104) (by kernel_rfl) (by kernel_rfl) (Ext.refl w104).drew ?_
    repeat (first
      | go_big_quiet_skip
      | (go_big_quiet_want; go_big_quiet_op; go_big_quiet_on)
      | (go_big_quiet_want; go_big_quiet_op; apply Exists.intro; refine ⟨fun _ _ => rfl, ?_⟩; go_big_quiet_on)
      | (go_big_quiet_want
         apply Exists.intro
         refine ⟨fun V hV => ?_, ?_⟩
         (have l0 := hV.cell A0.out (by omega)
          have l1 := hV.cell A1.out (by omega)
          have l2 := hV.cell A2.out (by omega)
          have l3 := hV.cell A3.out (by omega)
          have l4 := hV.cell A4.out (by omega)
          have l5 := hV.cell A5.out (by omega)
          have l6 := hV.cell A6.out (by omega)
          have l7 := hV.cell A7.out (by omega)
          have l8 := hV.cell A8.out (by omega)
          have l9 := hV.cell A9.out (by omega)
          have l10 := hV.cell A10.out (by omega)
          unfold Oper.quietAt
          go_simp
          rfl)
         try simp only [Act.put, List.setIfInBounds_toArray, List.set_cons_zero, List.set_cons_succ]
         go_big_quiet_on)
      | (go_big_quiet_want
         apply Exists.intro
         refine ⟨fun V hV => ?_, ?_⟩
         (have l0 := hV.cell B0.out (by omega)
          have l1 := hV.cell B1.out (by omega)
          have l2 := hV.cell B2.out (by omega)
          have l3 := hV.cell B3.out (by omega)
          have l4 := hV.cell B4.out (by omega)
          have l5 := hV.cell B5.out (by omega)
          have l6 := hV.cell B6.out (by omega)
          have l7 := hV.cell B7.out (by omega)
          have l8 := hV.cell B8.out (by omega)
          have l9 := hV.cell B9.out (by omega)
          have l10 := hV.cell B10.out (by omega)
          unfold Oper.quietAt
          go_simp
          rfl)
         try simp only [Act.put, List.setIfInBounds_toArray, List.set_cons_zero, List.set_cons_succ]
         go_big_quiet_on)
      | (go_big_quiet_want
         apply Exists.intro
         refine ⟨fun V hV => ?_, ?_⟩
         (have l5 := hV.cell C5.out (by omega)
          unfold Oper.quietAt
          go_simp
          rfl)
         try simp only [Act.put, List.setIfInBounds_toArray, List.set_cons_zero, List.set_cons_succ]
         go_big_quiet_on)
      | (go_big_quiet_want
         apply Exists.intro
         refine ⟨fun V hV => ?_, ?_⟩
         (have l5 := hV.cell E5.out (by omega)
          unfold Oper.quietAt
          go_simp
          rfl)
         try simp only [Act.put, List.setIfInBounds_toArray, List.set_cons_zero, List.set_cons_succ]
         go_big_quiet_on)
      | (go_big_quiet_want
         apply Exists.intro
         refine ⟨fun V hV => ?_, ?_⟩
         (have l0 := hV.cell H0.out (by omega)
          have l1 := hV.cell H1.out (by omega)
          have l2 := hV.cell H2.out (by omega)
          unfold Oper.quietAt
          go_simp
          rfl)
         try simp only [Act.put, List.setIfInBounds_toArray, List.set_cons_zero, List.set_cons_succ]
         go_big_quiet_on)
      | (go_big_quiet_want
         apply Exists.intro
         refine ⟨fun V hV => ?_, ?_⟩
         (have x0 := hV.cell E0.out (by omega)
          have x1 := hV.cell E1.out (by omega)
          have x2 := hV.cell E2.out (by omega)
          unfold Oper.quietAt
          go_simp
          rfl)
         try simp only [Act.put, List.setIfInBounds_toArray, List.set_cons_zero, List.set_cons_succ]
         go_big_quiet_on)
      | (go_big_quiet_want
         apply Exists.intro
         refine ⟨fun V hV => ?_, ?_⟩
         (unfold Oper.quietAt
          go_simp
          go_at_call 30
          (with_reducible refine (HHA.out V hV).mono ?_)
          rintro e w4 ⟨rfl, hb4⟩
          exact ⟨rfl, hV.step hb4⟩)
         try simp only [Act.put, List.setIfInBounds_toArray, List.set_cons_zero, List.set_cons_succ]
         go_big_quiet_on)
      | (go_big_quiet_want
         apply Exists.intro
         refine ⟨fun V hV => ?_, ?_⟩
         (unfold Oper.quietAt
          go_simp
          go_at_call 24
          (with_reducible refine (HT1.out V hV).mono ?_)
          rintro e w4 ⟨rfl, hb4⟩
          exact ⟨rfl, hV.step hb4⟩)
         try simp only [Act.put, List.setIfInBounds_toArray, List.set_cons_zero, List.set_cons_succ]
         go_big_quiet_on)
      | (go_big_quiet_want
         apply Exists.intro
         refine ⟨fun V hV => ?_, ?_⟩
         (unfold Oper.quietAt
          go_simp
          go_at_call 24
          (with_reducible refine (HT2.out V hV).mono ?_)
          rintro e w4 ⟨rfl, hb4⟩
          exact ⟨rfl, hV.step hb4⟩)
         try simp only [Act.put, List.setIfInBounds_toArray, List.set_cons_zero, List.set_cons_succ]
         go_big_quiet_on)
      | (go_big_quiet_want
         apply Exists.intro
         refine ⟨fun V hV => ?_, ?_⟩
         (unfold Oper.quietAt
          go_simp
          go_at_call 24
          (with_reducible refine (HT5.out V hV).mono ?_)
          rintro e w4 ⟨rfl, hb4⟩
          exact ⟨rfl, hV.step hb4⟩)
         try simp only [Act.put, List.setIfInBounds_toArray, List.set_cons_zero, List.set_cons_succ]
         go_big_quiet_on)
      | (go_big_quiet_want
         apply Exists.intro
         refine ⟨fun V hV => ?_, ?_⟩
         (unfold Oper.quietAt
          go_simp
          go_at_call 24
          (with_reducible refine (HT6.out V hV).mono ?_)
          rintro e w4 ⟨rfl, hb4⟩
          exact ⟨rfl, hV.step hb4⟩)
         try simp only [Act.put, List.setIfInBounds_toArray, List.set_cons_zero, List.set_cons_succ]
         go_big_quiet_on)
      | (go_big_quiet_want
         apply Exists.intro
         refine ⟨fun V hV => ?_, ?_⟩
         (unfold Oper.quietAt
          go_simp
          go_at_call 32
          (with_reducible refine (HO1.out V hV).mono ?_)
          rintro e w4 ⟨rfl, hb4⟩
          exact ⟨rfl, hV.step hb4⟩)
         try simp only [Act.put, List.setIfInBounds_toArray, List.set_cons_zero, List.set_cons_succ]
         go_big_quiet_on)
      | (go_big_quiet_want
         apply Exists.intro
         refine ⟨fun V hV => ?_, ?_⟩
         (unfold Oper.quietAt
          go_simp
          go_at_call 32
          (with_reducible refine (HO2.out V hV).mono ?_)
          rintro e w4 ⟨rfl, hb4⟩
          exact ⟨rfl, hV.step hb4⟩)
         try simp only [Act.put, List.setIfInBounds_toArray, List.set_cons_zero, List.set_cons_succ]
         go_big_quiet_on)
      | fail)
    refine wpQuiet_nil ?_
    intro w77 hw77
    obtain ⟨w105, hW⟩ : ∃ V, V = w77 := ⟨_, rfl⟩
    rw [← hW] at hw77 ⊢
    clear hW
    have hb : Below w104.heap.size w104 w105 := hw77.below
    have z105 := hb.size
    replace BA := Lib.hid (BA.out.below hb (by omega))
    replace BB := Lib.hid (BB.out.below hb (by omega))
    replace BS := Lib.hid (BS.out.below hb (by omega))
    replace BT := Lib.hid (BT.out.below hb (by omega))
    replace HA := Lib.hid (Rep.below (R := AcctR) HA.out hb (by omega))
    replace HA9 := Lib.hid (Rep.below (R := AcctR) HA9.out hb (by omega))
    replace HA5 := Lib.hid (Rep.below (R := AcctR) HA5.out hb (by omega))
    replace HA6 := Lib.hid (Rep.below (R := AcctR) HA6.out hb (by omega))
    replace BH := Lib.hid (BH.out.below hb (by omega))
    replace HA1 := Lib.hid (Rep.below (R := AcctR) HA1.out hb (by omega))
    replace HA2 := Lib.hid (Rep.below (R := AcctR) HA2.out hb (by omega))
    replace BX := Lib.hid (BX.out.below hb (by omega))
    replace BY := Lib.hid (BY.out.below hb (by omega))
    replace HQ := Lib.hid (HQ.out.trans (hb.mono (by omega)))
    replace HBQ := Lib.hid (HBQ.out.trans (hb.mono (by omega)))
    replace HB : Hid (Below w.heap.size w w105) := Lib.hid (HB.out.trans (hb.mono (by omega)))
    clear hb hw77 A0 A1 A2 A3 A4 A5 A6 A7 A8 A9 A10 B0 B1 B2 B3 B4 B5 B6 B7 B8 B9 B10 C5 E5 H0 H1 H2
    clear HHA HT1 HT2 HT5 HT6 HO1 HO2 heq
    go_wp2
    go_roundw
    case rel => exact ⟨i + 1, by omega, by go_num, HQ⟩
    case measure => simp [intOf] <;> omega
end Go.Proofs.YtnmijppppcgobaaGreatDoor.fnMove
