/- Accounts: the law package's comparison and size; no conditions. -/
import Derived.Test.YtpeeagkfhdeagaaGreatDoorAcctT
set_option linter.unusedVariables false
namespace Go.Proofs.YtpeeagkfhdeagaaGreatDoor
open Go.ChangeShapes Go.WideShapes Go.ChangeAt Go.RowKit

set_option maxRecDepth 100000 in
set_option maxHeartbeats 4000000 in
theorem eqAcct_any (hi1 hi2 : Nat) (vh vc vs vl vh' vc' vs' vl' : Value) (a : AcctD) (w : World) (hz : acctSmall 1048576 a) (h1 : AcctR.rd hi1 w (aCells a vh vc vs vl) a) (h2 : AcctR.rd hi2 w (aCells a vh' vc' vs' vl') a) (hh1 : hi1 ≤ w.heap.size) (hh2 : hi2 ≤ w.heap.size) :
    Calls Tryz.prog 10 #[.agg #[.string (aId a), .int .i64 (aLim a), .int .i64 (aPos a), .int .i64 (aMost a), .int .i64 (aSum a), vh, .int .i64 (aR a).1, .int .i64 (aR a).2.1, vc, vs, vl], .agg #[.string (aId a), .int .i64 (aLim a), .int .i64 (aPos a), .int .i64 (aMost a), .int .i64 (aSum a), vh', .int .i64 (aR a).1, .int .i64 (aR a).2.1, vc', vs', vl']] w fun e w' => e = .returned (.bool true) ∧ Below w.heap.size w w' := by
  obtain ⟨vh0, vc0, vs0, vl0, hcs, r1, r2, r3, r4⟩ := acct_rd h1
  simp only [aCells, List.cons.injEq, and_true, true_and] at hcs
  obtain ⟨rfl, rfl, rfl, rfl⟩ := hcs
  clear h1
  obtain ⟨vh0, vc0, vs0, vl0, hcs, r1b, r2b, r3b, r4b⟩ := acct_rd h2
  simp only [aCells, List.cons.injEq, and_true, true_and] at hcs
  obtain ⟨rfl, rfl, rfl, rfl⟩ := hcs
  clear h2
  obtain ⟨z1, z2, z3, z4, z5⟩ := hz
  obtain ⟨id, lim, pos, most, sum, hs, ⟨sp, hd, cs, ss⟩, sl⟩ := a
  simp only [aId, aLim, aPos, aMost, aSum, aH, aS] at r1 r2 r3 r4 r1b r2b r3b r4b z1 z2 z3 z4 z5 ⊢
  obtain ⟨AH, cH, rfl, -⟩ := Rep.slice_form r1
  obtain ⟨AC, cC, rfl, -⟩ := r2.form
  obtain ⟨AS, cS, rfl, -⟩ := r3.form
  obtain ⟨AL, cL, rfl, -⟩ := Rep.slice_form r4
  obtain ⟨AH', cH', rfl, -⟩ := Rep.slice_form r1b
  obtain ⟨AC', cC', rfl, -⟩ := r2b.form
  obtain ⟨AS', cS', rfl, -⟩ := r3b.form
  obtain ⟨AL', cL', rfl, -⟩ := Rep.slice_form r4b
  have HQ1 := Lib.hid (fun W (hW : Below w.heap.size w W) => eqHolds_any hi1 hi2 _ _ hs W (by omega) (Rep.below (R := HoldsR) r1 hW hh1) (Rep.below (R := HoldsR) r1b hW hh2) (Nat.le_trans hh1 hW.size) (Nat.le_trans hh2 hW.size))
  have HQ2 := Lib.hid (fun W (hW : Below w.heap.size w W) => eqRing_any hi1 hi2 _ _ _ _ (sp, hd, cs, ss) W (r2.below hW hh1) (r3.below hW hh1) (r2b.below hW hh2) (r3b.below hW hh2) (Nat.le_trans hh1 hW.size) (Nat.le_trans hh2 hW.size) z2 z3)
  have HQ3 := Lib.hid (fun W (hW : Below w.heap.size w W) => eqSlots_any hi1 hi2 _ _ sl W (by omega) (fun x hx => Nat.le_trans (z5 x hx) (by omega)) (Rep.below (R := SlotsR) r4 hW hh1) (Rep.below (R := SlotsR) r4b hW hh2) (Nat.le_trans hh1 hW.size) (Nat.le_trans hh2 hW.size))
  clear r1 r2 r3 r4 r1b r2b r3b r4b z5
  have HB0 : Hid (∀ o1 o2, Below w.heap.size w ((w.alloc o1).alloc o2)) := Lib.hid fun o1 o2 => ((Below.refl _ _).alloc (Nat.le_refl _) _).alloc (by simp) _
  go_enter Tryz.func10, Tryz.ntmps10
  go_upto_region 1 with fail
  obtain ⟨W, hW⟩ : ∃ W, W = (w.alloc (.cells #[.string id, .int .i64 lim, .int .i64 pos, .int .i64 most, .int .i64 sum, .slice AH hs.length cH, .int .i64 sp, .int .i64 hd, .slice AC cs.length cC, .slice AS ss.length cS, .slice AL sl.length cL] 35)).alloc (.cells #[.string id, .int .i64 lim, .int .i64 pos, .int .i64 most, .int .i64 sum, .slice AH' hs.length cH', .int .i64 sp, .int .i64 hd, .slice AC' cs.length cC', .slice AS' ss.length cS', .slice AL' sl.length cL'] 35) := ⟨_, rfl⟩
  have b0 : bk W w.heap.size 35 [.string id, .int .i64 lim, .int .i64 pos, .int .i64 most, .int .i64 sum, .slice AH hs.length cH, .int .i64 sp, .int .i64 hd, .slice AC cs.length cC, .slice AS ss.length cS, .slice AL sl.length cL] := by rw [hW]; exact (bk.new w _ _).alloc _
  have b1 : bk W (w.heap.size + 1) 35 [.string id, .int .i64 lim, .int .i64 pos, .int .i64 most, .int .i64 sum, .slice AH' hs.length cH', .int .i64 sp, .int .i64 hd, .slice AC' cs.length cC', .slice AS' ss.length cS', .slice AL' sl.length cL'] := by rw [hW]; simpa using bk.new (w.alloc _) 35 [.string id, .int .i64 lim, .int .i64 pos, .int .i64 most, .int .i64 sum, .slice AH' hs.length cH', .int .i64 sp, .int .i64 hd, .slice AC' cs.length cC', .slice AS' ss.length cS', .slice AL' sl.length cL']
  have HBW : Hid (Below w.heap.size w W) := Lib.hid (by rw [hW]; exact HB0.out _ _)
  have y0 : w.heap.size + 2 ≤ W.heap.size := by rw [hW]; simp
  rw [← hW]
  clear hW HB0
  obtain ⟨⟨p0, p1, p2, p3, p4, p5, p6, p7, p8, p9, p10⟩, -⟩ := b0.eleven
  obtain ⟨⟨q0, q1, q2, q3, q4, q5, q6, q7, q8, q9, q10⟩, -⟩ := b1.eleven
  have B0 := Lib.hid b0
  have B1 := Lib.hid b1
  clear b0 b1
  go_wp2_with fail
  refine (HQ1.out W HBW.out).mono ?_
  rintro e w1 ⟨rfl, hb1⟩
  have y1 := hb1.size
  have HB1 : Hid (Below w.heap.size w w1) := Lib.hid (HBW.out.trans (hb1.mono (by omega)))
  have C0 := Lib.hid (B0.out.below hb1 (by omega))
  have C1 := Lib.hid (B1.out.below hb1 (by omega))
  clear hb1 HQ1 HBW B0 B1 p0 p1 p2 p3 p4 p5 p6 p7 p8 p9 p10 q0 q1 q2 q3 q4 q5 q6 q7 q8 q9 q10
  obtain ⟨⟨p0, p1, p2, p3, p4, p5, p6, p7, p8, p9, p10⟩, -⟩ := C0.out.eleven
  obtain ⟨⟨q0, q1, q2, q3, q4, q5, q6, q7, q8, q9, q10⟩, -⟩ := C1.out.eleven
  go_wp2_with fail
  refine (HQ2.out w1 HB1.out).mono ?_
  rintro e w2 ⟨rfl, hb2⟩
  have y2 := hb2.size
  have HB2 : Hid (Below w.heap.size w w2) := Lib.hid (HB1.out.trans (hb2.mono (by omega)))
  have D0 := Lib.hid (C0.out.below hb2 (by omega))
  have D1 := Lib.hid (C1.out.below hb2 (by omega))
  clear hb2 HQ2 HB1 C0 C1 p0 p1 p2 p3 p4 p5 p6 p7 p8 p9 p10 q0 q1 q2 q3 q4 q5 q6 q7 q8 q9 q10
  obtain ⟨⟨p0, p1, p2, p3, p4, p5, p6, p7, p8, p9, p10⟩, -⟩ := D0.out.eleven
  obtain ⟨⟨q0, q1, q2, q3, q4, q5, q6, q7, q8, q9, q10⟩, -⟩ := D1.out.eleven
  go_wp2_with fail
  refine (HQ3.out w2 HB2.out).mono ?_
  rintro e w3 ⟨rfl, hb3⟩
  have HB3 : Hid (Below w.heap.size w w3) := Lib.hid (HB2.out.trans (hb3.mono (by omega)))
  clear hb3
  go_wp2
  go_ret
  exact ⟨rfl, HB3.out⟩
def acctSz (a : AcctD) : Nat := (aId a).size + holdsSz (aH a) + ((aR a).2.2.1.length + (aR a).2.2.2.length) + slotsSz (aS a)
/-- what an account that is given may be -/
structure acctBig (a : AcctD) : Prop where
  i : (aId a).size ≤ maxLen
  h : (aH a).length ≤ maxLen
  hi : ∀ x ∈ aH a, x.1.size ≤ maxLen
  c : (aR a).2.2.1.length ≤ maxLen
  s : (aR a).2.2.2.length ≤ maxLen
  l : (aS a).length ≤ maxLen
  li : ∀ x ∈ aS a, x.1.size ≤ maxLen ∧ x.2.1.size ≤ maxLen ∧ x.2.2.length ≤ maxLen
set_option maxRecDepth 100000 in
set_option maxHeartbeats 4000000 in
theorem szAcct_any (hi : Nat) (vh vc vs vl : Value) (a : AcctD) (left : Int) (w : World) (hz : acctBig a) (h : AcctR.rd hi w (aCells a vh vc vs vl) a) (hh : hi ≤ w.heap.size) (l0 : 0 ≤ left) (l1 : left ≤ 1048576) :
    Calls Tryz.prog 6 #[.agg #[.string (aId a), .int .i64 (aLim a), .int .i64 (aPos a), .int .i64 (aMost a), .int .i64 (aSum a), vh, .int .i64 (aR a).1, .int .i64 (aR a).2.1, vc, vs, vl], .int .i64 left] w (szRes left (acctSz a) w) := by
  obtain ⟨vh0, vc0, vs0, vl0, hcs, r1, r2, r3, r4⟩ := acct_rd h
  simp only [aCells, List.cons.injEq, and_true, true_and] at hcs
  obtain ⟨rfl, rfl, rfl, rfl⟩ := hcs
  clear h
  obtain ⟨z0, z1, z1', z2, z3, z4, z5⟩ := hz
  obtain ⟨id, lim, pos, most, sum, hs, ⟨sp, hd, cs, ss⟩, sl⟩ := a
  simp only [aId, aLim, aPos, aMost, aSum, aH, aS] at r1 r2 r3 r4 z0 z1 z1' z2 z3 z4 z5 ⊢
  obtain ⟨AH, cH, rfl, -⟩ := Rep.slice_form r1
  obtain ⟨AC, cC, rfl, -⟩ := r2.form
  obtain ⟨AS, cS, rfl, -⟩ := r3.form
  obtain ⟨AL, cL, rfl, -⟩ := Rep.slice_form r4
  have HZ : Hid (((acctSz (id, lim, pos, most, sum, hs, (sp, hd, cs, ss), sl) : Nat) : Int) = (id.size : Int) + (holdsSz hs : Int) + ringSz (sp, hd, cs, ss) + (slotsSz sl : Int)) := Lib.hid (by unfold acctSz ringSz; simp only [aId, aH, aS]; omega)
  have hrs : 0 ≤ ringSz (sp, hd, cs, ss) := by unfold ringSz; omega
  have HQ1 := Lib.hid (fun L W (hW : Below w.heap.size w W) (a0 : 0 ≤ L) (a1 : L ≤ 1048576) => szHolds_any hi _ hs L W z1 z1' (Rep.below (R := HoldsR) r1 hW hh) (Nat.le_trans hh hW.size) a0 a1)
  have HQ2 := Lib.hid (fun L W (hW : Below w.heap.size w W) (a0 : 0 ≤ L) (a1 : L ≤ 1048576) => szRing_any _ _ (sp, hd, cs, ss) L W (r2.below hW hh) (r3.below hW hh) z2 z3 a0 a1)
  have HQ3 := Lib.hid (fun L W (hW : Below w.heap.size w W) (a0 : 0 ≤ L) (a1 : L ≤ 1048576) => szSlots_any hi _ sl L W z4 z5 (Rep.below (R := SlotsR) r4 hW hh) (Nat.le_trans hh hW.size) a0 a1)
  clear r1 r2 r3 r4 z1 z1' z2 z3 z4 z5
  unfold maxLen at z0
  go_enter Tryz.func6, Tryz.ntmps6
  go_upto_region 1 with fail
  obtain ⟨W, hW⟩ : ∃ W, W = w.alloc (.cells #[.string id, .int .i64 lim, .int .i64 pos, .int .i64 most, .int .i64 sum, .slice AH hs.length cH, .int .i64 sp, .int .i64 hd, .slice AC cs.length cC, .slice AS ss.length cS, .slice AL sl.length cL] 28) := ⟨_, rfl⟩
  have b0 : bk W w.heap.size 28 [.string id, .int .i64 lim, .int .i64 pos, .int .i64 most, .int .i64 sum, .slice AH hs.length cH, .int .i64 sp, .int .i64 hd, .slice AC cs.length cC, .slice AS ss.length cS, .slice AL sl.length cL] := by rw [hW]; exact bk.new w _ _
  have HBW : Hid (Below w.heap.size w W) := Lib.hid (by rw [hW]; exact (Below.refl _ _).alloc (Nat.le_refl _) _)
  have y0 : w.heap.size + 1 ≤ W.heap.size := by rw [hW]; simp
  rw [← hW]
  clear hW
  obtain ⟨⟨p0, p1, p2, p3, p4, p5, p6, p7, p8, p9, p10⟩, -⟩ := b0.eleven
  have B0 := Lib.hid b0
  clear b0
  by_cases n0 : left - (id.size : Int) < 0
  · go_wp2
    go_ret
    exact ⟨_, rfl, .inl rfl, HBW.out⟩
  go_wp2_with fail
  refine (HQ1.out _ W HBW.out (by omega) (by omega)).mono ?_
  rintro e w1 ⟨q1, rfl, hq1, hb1⟩
  have y1 := hb1.size
  have HB1 : Hid (Below w.heap.size w w1) := Lib.hid (HBW.out.trans (hb1.mono (by omega)))
  have C0 := Lib.hid (B0.out.below hb1 (by omega))
  clear hb1 HQ1 HBW B0 p0 p1 p2 p3 p4 p5 p6 p7 p8 p9 p10
  rcases hq1 with rfl | ⟨hq1, hp1⟩
  · go_wp2
    go_ret
    exact ⟨_, rfl, .inl rfl, HB1.out⟩
  have hr1 : q1 ≤ 1048576 := by omega
  have HE1 := Lib.hid hq1
  clear hq1
  obtain ⟨⟨p0, p1, p2, p3, p4, p5, p6, p7, p8, p9, p10⟩, -⟩ := C0.out.eleven
  go_wp2_with fail
  refine (HQ2.out _ w1 HB1.out (by omega) (by omega)).mono ?_
  rintro e w2 ⟨q2, rfl, hq2, hb2⟩
  have y2 := hb2.size
  have HB2 : Hid (Below w.heap.size w w2) := Lib.hid (HB1.out.trans (hb2.mono (by omega)))
  have D0 := Lib.hid (C0.out.below hb2 (by omega))
  clear hb2 HQ2 HB1 C0 p0 p1 p2 p3 p4 p5 p6 p7 p8 p9 p10
  rcases hq2 with rfl | ⟨hq2, hp2⟩
  · go_wp2
    go_ret
    exact ⟨_, rfl, .inl rfl, HB2.out⟩
  have hr2 : q2 ≤ 1048576 := by omega
  have HE2 := Lib.hid hq2
  clear hq2
  obtain ⟨⟨p0, p1, p2, p3, p4, p5, p6, p7, p8, p9, p10⟩, -⟩ := D0.out.eleven
  go_wp2_with fail
  refine (HQ3.out _ w2 HB2.out (by omega) (by omega)).mono ?_
  rintro e w3 ⟨q3, rfl, hq3, hb3⟩
  have HB3 : Hid (Below w.heap.size w w3) := Lib.hid (HB2.out.trans (hb3.mono (by omega)))
  clear hb3
  rcases hq3 with rfl | ⟨hq3, hp3⟩
  · go_wp2
    go_ret
    exact ⟨_, rfl, .inl rfl, HB3.out⟩
  have HE3 := Lib.hid hq3
  clear hq3
  go_wp2
  go_ret
  exact ⟨_, rfl, .inr ⟨by rw [HE3.out, HE2.out, HE1.out, HZ.out]; omega, hp3⟩, HB3.out⟩
end Go.Proofs.YtpeeagkfhdeagaaGreatDoor
