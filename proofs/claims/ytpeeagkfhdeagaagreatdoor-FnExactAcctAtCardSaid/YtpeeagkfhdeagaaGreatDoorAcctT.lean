/- A law's account copied; no conditions. -/
import Derived.Test.YtpeeagkfhdeagaaGreatDoorAcct
import Derived.Test.YtpeeagkfhdeagaaGreatDoorRingH
import Derived.Test.YtpeeagkfhdeagaaGreatDoorMemT
import Derived.Test.YtpeeagkfhdeagaaGreatDoorSlotL
set_option linter.unusedVariables false
namespace Go.Proofs.YtpeeagkfhdeagaaGreatDoor
open Go.ChangeShapes Go.WideShapes Go.ChangeAt Go.RowKit

set_option maxRecDepth 100000 in
set_option maxHeartbeats 4000000 in
theorem toAcctI_any (hi : Nat) (vh vc vs vl : Value) (a : AcctD) (w : World) (hz : acctSmall 1048576 a) (h : AcctR.rd hi w (aCells a vh vc vs vl) a) (hh : hi ≤ w.heap.size) :
    Calls Tryz.prog 8 #[.agg #[.string (aId a), .int .i64 (aLim a), .int .i64 (aPos a), .int .i64 (aMost a), .int .i64 (aSum a), vh, .int .i64 (aR a).1, .int .i64 (aR a).2.1, vc, vs, vl]] w (acctOneI a w) := by
  obtain ⟨vh', vc', vs', vl', hcs, r1, r2, r3, r4⟩ := acct_rd h
  simp only [aCells, List.cons.injEq, and_true, true_and] at hcs
  obtain ⟨rfl, rfl, rfl, rfl⟩ := hcs
  clear h
  obtain ⟨z1, z2, z3, z4, z5⟩ := hz
  obtain ⟨id, lim, pos, most, sum, hs, ⟨sp, hd, cs, ss⟩, sl⟩ := a
  simp only [aId, aLim, aPos, aMost, aSum, aH, aS] at r1 r2 r3 r4 z1 z2 z3 z4 z5 ⊢
  obtain ⟨AH, cH, rfl, -⟩ := Rep.slice_form r1
  obtain ⟨AC, cC, rfl, -⟩ := r2.form
  obtain ⟨AS, cS, rfl, -⟩ := r3.form
  obtain ⟨AL, cL, rfl, -⟩ := Rep.slice_form r4
  have HT1 := Lib.hid (fun W (hW : Below w.heap.size w W) => toHolds_any hi _ hs W z1 (Rep.below (R := HoldsR) r1 hW hh) (Nat.le_trans hh hW.size))
  have HT2 := Lib.hid (fun W (hW : Below w.heap.size w W) => toRing_any hi _ _ (sp, hd, cs, ss) W (r2.below hW hh) (r3.below hW hh) (Nat.le_trans hh hW.size) z2 z3)
  have HT3 := Lib.hid (fun W (hW : Below w.heap.size w W) => toSlots_any hi _ sl W z4 z5 (Rep.below (R := SlotsR) r4 hW hh) (Nat.le_trans hh hW.size))
  clear r1 r2 r3 r4 z5
  go_enter Tryz.func8, Tryz.ntmps8
  go_wp2_with fail
  obtain ⟨W, hW⟩ : ∃ W, W = ((w.alloc (.cells #[.string id, .int .i64 lim, .int .i64 pos, .int .i64 most, .int .i64 sum, .slice AH hs.length cH, .int .i64 sp, .int .i64 hd, .slice AC cs.length cC, .slice AS ss.length cS, .slice AL sl.length cL] 28)).alloc (.cells #[.string ⟨#[]⟩, .int .i64 0, .int .i64 0, .int .i64 0, .int .i64 0, .slice none 0 0, .int .i64 0, .int .i64 0, .slice none 0 0, .slice none 0 0, .slice none 0 0] 35)).alloc (.cells #[.string id, .int .i64 lim, .int .i64 pos, .int .i64 most, .int .i64 sum, .slice none 0 0, .int .i64 0, .int .i64 0, .slice none 0 0, .slice none 0 0, .slice none 0 0] 35) := ⟨_, rfl⟩
  have b0 : bk W w.heap.size 28 [.string id, .int .i64 lim, .int .i64 pos, .int .i64 most, .int .i64 sum, .slice AH hs.length cH, .int .i64 sp, .int .i64 hd, .slice AC cs.length cC, .slice AS ss.length cS, .slice AL sl.length cL] := by rw [hW]; exact ((bk.new w _ _).alloc _).alloc _
  have b1 : bk W (w.heap.size + 1) 35 [.string ⟨#[]⟩, .int .i64 0, .int .i64 0, .int .i64 0, .int .i64 0, .slice none 0 0, .int .i64 0, .int .i64 0, .slice none 0 0, .slice none 0 0, .slice none 0 0] := by rw [hW]; simpa using (bk.new (w.alloc _) 35 [.string ⟨#[]⟩, .int .i64 0, .int .i64 0, .int .i64 0, .int .i64 0, .slice none 0 0, .int .i64 0, .int .i64 0, .slice none 0 0, .slice none 0 0, .slice none 0 0]).alloc _
  have b2 : bk W (w.heap.size + 1 + 1) 35 [.string id, .int .i64 lim, .int .i64 pos, .int .i64 most, .int .i64 sum, .slice none 0 0, .int .i64 0, .int .i64 0, .slice none 0 0, .slice none 0 0, .slice none 0 0] := by rw [hW]; simpa using bk.new ((w.alloc _).alloc _) 35 [.string id, .int .i64 lim, .int .i64 pos, .int .i64 most, .int .i64 sum, .slice none 0 0, .int .i64 0, .int .i64 0, .slice none 0 0, .slice none 0 0, .slice none 0 0]
  have HB0 : Hid (Below w.heap.size w W) := Lib.hid (by rw [hW]; exact (((Below.refl _ _).alloc (Nat.le_refl _) _).alloc (by simp) _).alloc (by simp <;> omega) _)
  have y0 : W.heap.size = w.heap.size + 3 := by rw [hW]; simp
  rw [← hW]
  clear hW
  refine (HT1.out W HB0.out).mono ?_
  rintro e w1 ⟨u1, rfl, hu1, hb1⟩
  obtain ⟨A1, c1, rfl, -⟩ := Rep.slice_form hu1.rd
  have y1 := hb1.size
  have HU1 := Lib.hid hu1
  have HB1 : Hid (Below w.heap.size w w1) := Lib.hid (HB0.out.trans (hb1.mono (by omega)))
  replace b0 := b0.below hb1 (by omega)
  replace b1 := b1.below hb1 (by omega)
  replace b2 := b2.below hb1 (by omega)
  clear hu1 hb1 HB0 HT1
  obtain ⟨⟨p0, p1, p2, p3, p4, p5, p6, p7, p8, p9, p10⟩, -⟩ := b0.eleven
  obtain ⟨⟨q0, q1, q2, q3, q4, q5, q6, q7, q8, q9, q10⟩, f0, f1, f2, f3, f4, f5, f6, f7, f8, f9, f10⟩ := b2.eleven
  have B0 := Lib.hid b0
  have B1 := Lib.hid b1
  have B2 := Lib.hid b2
  clear b0 b1 b2
  go_wp2_with fail
  obtain ⟨W2, hW2⟩ : ∃ W2, W2 = w1.setCell ⟨w.heap.size + 1 + 1, 5, none⟩ (.slice A1 hs.length c1) := ⟨_, rfl⟩
  have ht2 := (Turned.refl (w.heap.size + 1) (w.heap.size + 3) w1).set (b := w.heap.size + 1 + 1) 5 (.slice A1 hs.length c1) (by omega) (by omega)
  have b2 : bk (w1.setCell ⟨w.heap.size + 1 + 1, 5, none⟩ (.slice A1 hs.length c1)) (w.heap.size + 1 + 1) 35 [.string id, .int .i64 lim, .int .i64 pos, .int .i64 most, .int .i64 sum, .slice A1 hs.length c1, .int .i64 0, .int .i64 0, .slice none 0 0, .slice none 0 0, .slice none 0 0] := B2.out.set 5 (.slice A1 hs.length c1)
  have b0 := B0.out.under ht2 (.inl (by omega))
  have b1 := B1.out.far (p := ⟨w.heap.size + 1 + 1, 5, none⟩) (show w.heap.size + 1 ≠ w.heap.size + 1 + 1 by omega) (.slice A1 hs.length c1)
  rw [← hW2] at ht2 b0 b1 b2 ⊢
  clear hW2 B0 B1 B2 p0 p1 p2 p3 p4 p5 p6 p7 p8 p9 p10 q0 q1 q2 q3 q4 q5 q6 q7 q8 q9 q10 f0 f1 f2 f3 f4 f5 f6 f7 f8 f9 f10
  have y2 := ht2.size
  have HU2 := Lib.hid (HU1.out.turned ht2 (.inr (by omega)) (Nat.le_refl _))
  have HB2 := Lib.hid (HB1.out.trans (ht2.below (B := w.heap.size) (by omega) (by omega)))
  clear ht2 HU1 HB1
  refine (HT2.out W2 HB2.out).mono ?_
  rintro e w3 ⟨v3, v4, rfl, hu3, hb3⟩
  obtain ⟨A3, c3, rfl, -⟩ := (ring2 hu3.rd).1.form
  obtain ⟨A4, c4, rfl, -⟩ := (ring2 hu3.rd).2.form
  have y3 := hb3.size
  have HU3 := Lib.hid (HU2.out.below hb3 (by omega))
  have HV3 := Lib.hid hu3
  have HB3 : Hid (Below w.heap.size w w3) := Lib.hid (HB2.out.trans (hb3.mono (by omega)))
  replace b0 := b0.below hb3 (by omega)
  replace b1 := b1.below hb3 (by omega)
  replace b2 := b2.below hb3 (by omega)
  clear hu3 hb3 HU2 HB2 HT2
  obtain ⟨⟨p0, p1, p2, p3, p4, p5, p6, p7, p8, p9, p10⟩, -⟩ := b0.eleven
  obtain ⟨⟨q0, q1, q2, q3, q4, q5, q6, q7, q8, q9, q10⟩, f0, f1, f2, f3, f4, f5, f6, f7, f8, f9, f10⟩ := b2.eleven
  have B0 := Lib.hid b0
  have B1 := Lib.hid b1
  have B2 := Lib.hid b2
  clear b0 b1 b2
  go_wp2_with fail
  obtain ⟨W4, hW4⟩ : ∃ W4, W4 = (((w3.setCell ⟨w.heap.size + 1 + 1, 6, none⟩ (.int .i64 sp)).setCell ⟨w.heap.size + 1 + 1, 7, none⟩ (.int .i64 hd)).setCell ⟨w.heap.size + 1 + 1, 8, none⟩ (.slice A3 cs.length c3)).setCell ⟨w.heap.size + 1 + 1, 9, none⟩ (.slice A4 ss.length c4) := ⟨_, rfl⟩
  have ht4 := ((((Turned.refl (w.heap.size + 1 + 1) (w.heap.size + 3) w3).set (b := w.heap.size + 1 + 1) 6 (.int .i64 sp) (by omega) (by omega)).set (b := w.heap.size + 1 + 1) 7 (.int .i64 hd) (by omega) (by omega)).set (b := w.heap.size + 1 + 1) 8 (.slice A3 cs.length c3) (by omega) (by omega)).set (b := w.heap.size + 1 + 1) 9 (.slice A4 ss.length c4) (by omega) (by omega)
  have b2 : bk ((((w3.setCell ⟨w.heap.size + 1 + 1, 6, none⟩ (.int .i64 sp)).setCell ⟨w.heap.size + 1 + 1, 7, none⟩ (.int .i64 hd)).setCell ⟨w.heap.size + 1 + 1, 8, none⟩ (.slice A3 cs.length c3)).setCell ⟨w.heap.size + 1 + 1, 9, none⟩ (.slice A4 ss.length c4)) (w.heap.size + 1 + 1) 35 [.string id, .int .i64 lim, .int .i64 pos, .int .i64 most, .int .i64 sum, .slice A1 hs.length c1, .int .i64 sp, .int .i64 hd, .slice A3 cs.length c3, .slice A4 ss.length c4, .slice none 0 0] := (((B2.out.set 6 (.int .i64 sp)).set 7 (.int .i64 hd)).set 8 (.slice A3 cs.length c3)).set 9 (.slice A4 ss.length c4)
  have b0 := B0.out.under ht4 (.inl (by omega))
  have b1 := B1.out.under ht4 (.inl (by omega))
  rw [← hW4] at ht4 b0 b1 b2 ⊢
  clear hW4 B0 B1 B2 p0 p1 p2 p3 p4 p5 p6 p7 p8 p9 p10 q0 q1 q2 q3 q4 q5 q6 q7 q8 q9 q10 f0 f1 f2 f3 f4 f5 f6 f7 f8 f9 f10
  have y4 := ht4.size
  have HU4 := Lib.hid (HU3.out.turned ht4 (.inr (by omega)) (by omega))
  have HV4 := Lib.hid (HV3.out.turned ht4 (.inr (by omega)) (Nat.le_refl _))
  have HB4 := Lib.hid (HB3.out.trans (ht4.below (B := w.heap.size) (by omega) (by omega)))
  clear ht4 HU3 HV3 HB3
  refine (HT3.out W4 HB4.out).mono ?_
  rintro e w5 ⟨u6, rfl, hu5, hb5⟩
  obtain ⟨A6, c6, rfl, -⟩ := Rep.slice_form hu5.rd
  have y5 := hb5.size
  have HU5 := Lib.hid (HU4.out.below hb5 (by omega))
  have HV5 := Lib.hid (HV4.out.below hb5 (by omega))
  have HS5 := Lib.hid hu5
  have HB5 : Hid (Below w.heap.size w w5) := Lib.hid (HB4.out.trans (hb5.mono (by omega)))
  replace b1 := b1.below hb5 (by omega)
  replace b2 := b2.below hb5 (by omega)
  clear hu5 hb5 HU4 HV4 HB4 HT3 b0
  obtain ⟨⟨q0, q1, q2, q3, q4, q5, q6, q7, q8, q9, q10⟩, f0, f1, f2, f3, f4, f5, f6, f7, f8, f9, f10⟩ := b2.eleven
  obtain ⟨⟨r0, r1, r2, r3, r4, r5, r6, r7, r8, r9, r10⟩, g0, g1, g2, g3, g4, g5, g6, g7, g8, g9, g10⟩ := b1.eleven
  clear b1 b2
  go_wp2
  refine bodyPost_ret (v := .agg #[.string id, .int .i64 lim, .int .i64 pos, .int .i64 most, .int .i64 sum, .slice A1 hs.length c1, .int .i64 sp, .int .i64 hd, .slice A3 cs.length c3, .slice A4 ss.length c4, .slice A6 sl.length c6]) (by simp [results, Tryz.results8, go_sem, r0, r1, r2, r3, r4, r5, r6, r7, r8, r9, r10]) rfl ?_
  have ht := ((((((((((((Turned.refl (w.heap.size + 1) (w.heap.size + 3) w5).set (b := w.heap.size + 1 + 1) 10 (.slice A6 sl.length c6) (by omega) (by omega)).set (b := w.heap.size + 1) 0 (.string id) (by omega) (by omega)).set (b := w.heap.size + 1) 1 (.int .i64 lim) (by omega) (by omega)).set (b := w.heap.size + 1) 2 (.int .i64 pos) (by omega) (by omega)).set (b := w.heap.size + 1) 3 (.int .i64 most) (by omega) (by omega)).set (b := w.heap.size + 1) 4 (.int .i64 sum) (by omega) (by omega)).set (b := w.heap.size + 1) 5 (.slice A1 hs.length c1) (by omega) (by omega)).set (b := w.heap.size + 1) 6 (.int .i64 sp) (by omega) (by omega)).set (b := w.heap.size + 1) 7 (.int .i64 hd) (by omega) (by omega)).set (b := w.heap.size + 1) 8 (.slice A3 cs.length c3) (by omega) (by omega)).set (b := w.heap.size + 1) 9 (.slice A4 ss.length c4) (by omega) (by omega)).set (b := w.heap.size + 1) 10 (.slice A6 sl.length c6) (by omega) (by omega)
  have hsz := ht.size
  exact ⟨_, _, _, _, rfl, acctI_ivl (p1 := W2.heap.size) (p2 := W4.heap.size) ((HU5.out.turned ht (.inr (by omega)) (by omega)).mono (by omega) (by omega)) ((HV5.out.turned ht (.inr (by omega)) (by omega)).mono (by omega) (by omega)) ((HS5.out.turned ht (.inr (by omega)) (by omega)).mono (by omega) (by omega)) (by omega) (by omega) (by omega), HB5.out.trans (ht.below (by omega) (by omega))⟩
set_option maxRecDepth 100000 in
theorem toAcct_any (hi : Nat) (vh vc vs vl : Value) (a : AcctD) (w : World) (hz : acctSmall 1048576 a) (h : AcctR.rd hi w (aCells a vh vc vs vl) a) (hh : hi ≤ w.heap.size) :
    Calls Tryz.prog 8 #[.agg #[.string (aId a), .int .i64 (aLim a), .int .i64 (aPos a), .int .i64 (aMost a), .int .i64 (aSum a), vh, .int .i64 (aR a).1, .int .i64 (aR a).2.1, vc, vs, vl]] w (acctOne a w) :=
  (toAcctI_any hi vh vc vs vl a w hz h hh).mono fun _ _ h => h.one
end Go.Proofs.YtpeeagkfhdeagaaGreatDoor
