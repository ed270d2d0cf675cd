/- A law's account copied; no conditions. -/
import Derived.Test.YthnimmagaocipaaMrg1
import Derived.Laws.AppendOwn
import Derived.OwnWalk
import Derived.Deep.Onto
import Derived.Maps.AppendAt
import Derived.Laws.AppendOwnNone
import Derived.RegionTactic
import Derived.WalkLawsBesides
import Derived.Deep.Cut
import Derived.Deep.RegionHeld3
import Derived.Deep.DeepCutAuto
set_option linter.unusedVariables false
namespace Go.Proofs.Ythnimmagaocipaa
open Go.ChangeShapes Go.WideShapes Go.ChangeAt Go.RowKit

set_option maxRecDepth 100000 in
set_option maxHeartbeats 4000000 in
theorem toAcctI_any (hi : Nat) (vh vc vs vl : Value) (a : AcctD) (w : World) (hz : acctSmall 1048576 a) (h : AcctR.rd hi w (aCells a vh vc vs vl) a) (hh : hi ≤ w.heap.size) :
    Calls Try.prog 21 #[.agg #[.string (aId a), .int .i64 (aLim a), .int .i64 (aPos a), .int .i64 (aMost a), .int .i64 (aSum a), vh, .int .i64 (aR a).1, .int .i64 (aR a).2.1, vc, vs, vl]] w (acctOneI a w) := by
  obtain ⟨vh', vc', vs', vl', hcs, r1, r2, r3, r4⟩ := acct_rd h
  simp only [aCells, List.cons.injEq, and_true, true_and] at hcs
  obtain ⟨rfl, rfl, rfl, rfl⟩ := hcs
  clear h
  obtain ⟨z1, z2, z3, z4, z5⟩ := hz
  obtain ⟨id, lim, pos, most, sum, hs, ⟨sp, hd, cs, ss⟩, sl⟩ := a
  simp only [aId, aLim, aPos, aMost, aSum, aH, aS] at r1 r2 r3 r4 z1 z2 z3 z4 z5 ⊢
  obtain ⟨AH, cH, rfl, -⟩ := Rep.slice_form r1
  obtain ⟨AC, cC, rfl, -⟩ := r2.form
  obtain ⟨AS, cS, rfl, -⟩ := r3.form
  obtain ⟨AL, cL, rfl, -⟩ := Rep.slice_form r4
  have HT1 := Lib.hid (fun W (hW : Below w.heap.size w W) => toHolds_any hi _ hs W z1 (Rep.below (R := HoldsR) r1 hW hh) (Nat.le_trans hh hW.size))
  have HT2 := Lib.hid (fun W (hW : Below w.heap.size w W) => toRing_any hi _ _ (sp, hd, cs, ss) W (r2.below hW hh) (r3.below hW hh) (Nat.le_trans hh hW.size) z2 z3)
  have HT3 := Lib.hid (fun W (hW : Below w.heap.size w W) => toSlots_any hi _ sl W z4 z5 (Rep.below (R := SlotsR) r4 hW hh) (Nat.le_trans hh hW.size))
  clear r1 r2 r3 r4 z5
  go_enter Try.func21, Try.ntmps21
  go_wp2_with fail
  obtain ⟨W, hW⟩ : ∃ W, W = ((w.alloc (.cells #[.string id, .int .i64 lim, .int .i64 pos, .int .i64 most, .int .i64 sum, .slice AH hs.length cH, .int .i64 sp, .int .i64 hd, .slice AC cs.length cC, .slice AS ss.length cS, .slice AL sl.length cL] 53)).alloc (.cells #[.string ⟨#[]⟩, .int .i64 0, .int .i64 0, .int .i64 0, .int .i64 0, .slice none 0 0, .int .i64 0, .int .i64 0, .slice none 0 0, .slice none 0 0, .slice none 0 0] 41)).alloc (.cells #[.string id, .int .i64 lim, .int .i64 pos, .int .i64 most, .int .i64 sum, .slice none 0 0, .int .i64 0, .int .i64 0, .slice none 0 0, .slice none 0 0, .slice none 0 0] 41) := ⟨_, rfl⟩
  have b0 : bk W w.heap.size 53 [.string id, .int .i64 lim, .int .i64 pos, .int .i64 most, .int .i64 sum, .slice AH hs.length cH, .int .i64 sp, .int .i64 hd, .slice AC cs.length cC, .slice AS ss.length cS, .slice AL sl.length cL] := by rw [hW]; exact ((bk.new w _ _).alloc _).alloc _
  have b1 : bk W (w.heap.size + 1) 41 [.string ⟨#[]⟩, .int .i64 0, .int .i64 0, .int .i64 0, .int .i64 0, .slice none 0 0, .int .i64 0, .int .i64 0, .slice none 0 0, .slice none 0 0, .slice none 0 0] := by rw [hW]; simpa using (bk.new (w.alloc _) 41 [.string ⟨#[]⟩, .int .i64 0, .int .i64 0, .int .i64 0, .int .i64 0, .slice none 0 0, .int .i64 0, .int .i64 0, .slice none 0 0, .slice none 0 0, .slice none 0 0]).alloc _
  have b2 : bk W (w.heap.size + 1 + 1) 41 [.string id, .int .i64 lim, .int .i64 pos, .int .i64 most, .int .i64 sum, .slice none 0 0, .int .i64 0, .int .i64 0, .slice none 0 0, .slice none 0 0, .slice none 0 0] := by rw [hW]; simpa using bk.new ((w.alloc _).alloc _) 41 [.string id, .int .i64 lim, .int .i64 pos, .int .i64 most, .int .i64 sum, .slice none 0 0, .int .i64 0, .int .i64 0, .slice none 0 0, .slice none 0 0, .slice none 0 0]
  have HB0 : Hid (Below w.heap.size w W) := Lib.hid (by rw [hW]; exact (((Below.refl _ _).alloc (Nat.le_refl _) _).alloc (by simp) _).alloc (by simp <;> omega) _)
  have y0 : W.heap.size = w.heap.size + 3 := by rw [hW]; simp
  rw [← hW]
  clear hW
  refine (HT1.out W HB0.out).mono ?_
  rintro e w1 ⟨u1, rfl, hu1, hb1⟩
  obtain ⟨A1, c1, rfl, -⟩ := Rep.slice_form hu1.rd
  have y1 := hb1.size
  have HU1 := Lib.hid hu1
  have HB1 : Hid (Below w.heap.size w w1) := Lib.hid (HB0.out.trans (hb1.mono (by omega)))
  replace b0 := b0.below hb1 (by omega)
  replace b1 := b1.below hb1 (by omega)
  replace b2 := b2.below hb1 (by omega)
  clear hu1 hb1 HB0 HT1
  obtain ⟨⟨p0, p1, p2, p3, p4, p5, p6, p7, p8, p9, p10⟩, -⟩ := b0.eleven
  obtain ⟨⟨q0, q1, q2, q3, q4, q5, q6, q7, q8, q9, q10⟩, f0, f1, f2, f3, f4, f5, f6, f7, f8, f9, f10⟩ := b2.eleven
  have B0 := Lib.hid b0
  have B1 := Lib.hid b1
  have B2 := Lib.hid b2
  clear b0 b1 b2
  go_wp2_with fail
  obtain ⟨W2, hW2⟩ : ∃ W2, W2 = w1.setCell ⟨w.heap.size + 1 + 1, 5, none⟩ (.slice A1 hs.length c1) := ⟨_, rfl⟩
  have ht2 := (Turned.refl (w.heap.size + 1) (w.heap.size + 3) w1).set (b := w.heap.size + 1 + 1) 5 (.slice A1 hs.length c1) (by omega) (by omega)
  have b2 : bk (w1.setCell ⟨w.heap.size + 1 + 1, 5, none⟩ (.slice A1 hs.length c1)) (w.heap.size + 1 + 1) 41 [.string id, .int .i64 lim, .int .i64 pos, .int .i64 most, .int .i64 sum, .slice A1 hs.length c1, .int .i64 0, .int .i64 0, .slice none 0 0, .slice none 0 0, .slice none 0 0] := B2.out.set 5 (.slice A1 hs.length c1)
  have b0 := B0.out.under ht2 (.inl (by omega))
  have b1 := B1.out.far (p := ⟨w.heap.size + 1 + 1, 5, none⟩) (show w.heap.size + 1 ≠ w.heap.size + 1 + 1 by omega) (.slice A1 hs.length c1)
  rw [← hW2] at ht2 b0 b1 b2 ⊢
  clear hW2 B0 B1 B2 p0 p1 p2 p3 p4 p5 p6 p7 p8 p9 p10 q0 q1 q2 q3 q4 q5 q6 q7 q8 q9 q10 f0 f1 f2 f3 f4 f5 f6 f7 f8 f9 f10
  have y2 := ht2.size
  have HU2 := Lib.hid (HU1.out.turned ht2 (.inr (by omega)) (Nat.le_refl _))
  have HB2 := Lib.hid (HB1.out.trans (ht2.below (B := w.heap.size) (by omega) (by omega)))
  clear ht2 HU1 HB1
  refine (HT2.out W2 HB2.out).mono ?_
  rintro e w3 ⟨v3, v4, rfl, hu3, hb3⟩
  obtain ⟨A3, c3, rfl, -⟩ := (ring2 hu3.rd).1.form
  obtain ⟨A4, c4, rfl, -⟩ := (ring2 hu3.rd).2.form
  have y3 := hb3.size
  have HU3 := Lib.hid (HU2.out.below hb3 (by omega))
  have HV3 := Lib.hid hu3
  have HB3 : Hid (Below w.heap.size w w3) := Lib.hid (HB2.out.trans (hb3.mono (by omega)))
  replace b0 := b0.below hb3 (by omega)
  replace b1 := b1.below hb3 (by omega)
  replace b2 := b2.below hb3 (by omega)
  clear hu3 hb3 HU2 HB2 HT2
  obtain ⟨⟨p0, p1, p2, p3, p4, p5, p6, p7, p8, p9, p10⟩, -⟩ := b0.eleven
  obtain ⟨⟨q0, q1, q2, q3, q4, q5, q6, q7, q8, q9, q10⟩, f0, f1, f2, f3, f4, f5, f6, f7, f8, f9, f10⟩ := b2.eleven
  have B0 := Lib.hid b0
  have B1 := Lib.hid b1
  have B2 := Lib.hid b2
  clear b0 b1 b2
  go_wp2_with fail
  obtain ⟨W4, hW4⟩ : ∃ W4, W4 = (((w3.setCell ⟨w.heap.size + 1 + 1, 6, none⟩ (.int .i64 sp)).setCell ⟨w.heap.size + 1 + 1, 7, none⟩ (.int .i64 hd)).setCell ⟨w.heap.size + 1 + 1, 8, none⟩ (.slice A3 cs.length c3)).setCell ⟨w.heap.size + 1 + 1, 9, none⟩ (.slice A4 ss.length c4) := ⟨_, rfl⟩
  have ht4 := ((((Turned.refl (w.heap.size + 1 + 1) (w.heap.size + 3) w3).set (b := w.heap.size + 1 + 1) 6 (.int .i64 sp) (by omega) (by omega)).set (b := w.heap.size + 1 + 1) 7 (.int .i64 hd) (by omega) (by omega)).set (b := w.heap.size + 1 + 1) 8 (.slice A3 cs.length c3) (by omega) (by omega)).set (b := w.heap.size + 1 + 1) 9 (.slice A4 ss.length c4) (by omega) (by omega)
  have b2 : bk ((((w3.setCell ⟨w.heap.size + 1 + 1, 6, none⟩ (.int .i64 sp)).setCell ⟨w.heap.size + 1 + 1, 7, none⟩ (.int .i64 hd)).setCell ⟨w.heap.size + 1 + 1, 8, none⟩ (.slice A3 cs.length c3)).setCell ⟨w.heap.size + 1 + 1, 9, none⟩ (.slice A4 ss.length c4)) (w.heap.size + 1 + 1) 41 [.string id, .int .i64 lim, .int .i64 pos, .int .i64 most, .int .i64 sum, .slice A1 hs.length c1, .int .i64 sp, .int .i64 hd, .slice A3 cs.length c3, .slice A4 ss.length c4, .slice none 0 0] := (((B2.out.set 6 (.int .i64 sp)).set 7 (.int .i64 hd)).set 8 (.slice A3 cs.length c3)).set 9 (.slice A4 ss.length c4)
  have b0 := B0.out.under ht4 (.inl (by omega))
  have b1 := B1.out.under ht4 (.inl (by omega))
  rw [← hW4] at ht4 b0 b1 b2 ⊢
  clear hW4 B0 B1 B2 p0 p1 p2 p3 p4 p5 p6 p7 p8 p9 p10 q0 q1 q2 q3 q4 q5 q6 q7 q8 q9 q10 f0 f1 f2 f3 f4 f5 f6 f7 f8 f9 f10
  have y4 := ht4.size
  have HU4 := Lib.hid (HU3.out.turned ht4 (.inr (by omega)) (by omega))
  have HV4 := Lib.hid (HV3.out.turned ht4 (.inr (by omega)) (Nat.le_refl _))
  have HB4 := Lib.hid (HB3.out.trans (ht4.below (B := w.heap.size) (by omega) (by omega)))
  clear ht4 HU3 HV3 HB3
  refine (HT3.out W4 HB4.out).mono ?_
  rintro e w5 ⟨u6, rfl, hu5, hb5⟩
  obtain ⟨A6, c6, rfl, -⟩ := Rep.slice_form hu5.rd
  have y5 := hb5.size
  have HU5 := Lib.hid (HU4.out.below hb5 (by omega))
  have HV5 := Lib.hid (HV4.out.below hb5 (by omega))
  have HS5 := Lib.hid hu5
  have HB5 : Hid (Below w.heap.size w w5) := Lib.hid (HB4.out.trans (hb5.mono (by omega)))
  replace b1 := b1.below hb5 (by omega)
  replace b2 := b2.below hb5 (by omega)
  clear hu5 hb5 HU4 HV4 HB4 HT3 b0
  obtain ⟨⟨q0, q1, q2, q3, q4, q5, q6, q7, q8, q9, q10⟩, f0, f1, f2, f3, f4, f5, f6, f7, f8, f9, f10⟩ := b2.eleven
  obtain ⟨⟨r0, r1, r2, r3, r4, r5, r6, r7, r8, r9, r10⟩, g0, g1, g2, g3, g4, g5, g6, g7, g8, g9, g10⟩ := b1.eleven
  clear b1 b2
  go_wp2
  refine bodyPost_ret (v := .agg #[.string id, .int .i64 lim, .int .i64 pos, .int .i64 most, .int .i64 sum, .slice A1 hs.length c1, .int .i64 sp, .int .i64 hd, .slice A3 cs.length c3, .slice A4 ss.length c4, .slice A6 sl.length c6]) (by simp [results, Try.results21, go_sem, r0, r1, r2, r3, r4, r5, r6, r7, r8, r9, r10]) rfl ?_
  have ht := ((((((((((((Turned.refl (w.heap.size + 1) (w.heap.size + 3) w5).set (b := w.heap.size + 1 + 1) 10 (.slice A6 sl.length c6) (by omega) (by omega)).set (b := w.heap.size + 1) 0 (.string id) (by omega) (by omega)).set (b := w.heap.size + 1) 1 (.int .i64 lim) (by omega) (by omega)).set (b := w.heap.size + 1) 2 (.int .i64 pos) (by omega) (by omega)).set (b := w.heap.size + 1) 3 (.int .i64 most) (by omega) (by omega)).set (b := w.heap.size + 1) 4 (.int .i64 sum) (by omega) (by omega)).set (b := w.heap.size + 1) 5 (.slice A1 hs.length c1) (by omega) (by omega)).set (b := w.heap.size + 1) 6 (.int .i64 sp) (by omega) (by omega)).set (b := w.heap.size + 1) 7 (.int .i64 hd) (by omega) (by omega)).set (b := w.heap.size + 1) 8 (.slice A3 cs.length c3) (by omega) (by omega)).set (b := w.heap.size + 1) 9 (.slice A4 ss.length c4) (by omega) (by omega)).set (b := w.heap.size + 1) 10 (.slice A6 sl.length c6) (by omega) (by omega)
  have hsz := ht.size
  exact ⟨_, _, _, _, rfl, acctI_ivl (p1 := W2.heap.size) (p2 := W4.heap.size) ((HU5.out.turned ht (.inr (by omega)) (by omega)).mono (by omega) (by omega)) ((HV5.out.turned ht (.inr (by omega)) (by omega)).mono (by omega) (by omega)) ((HS5.out.turned ht (.inr (by omega)) (by omega)).mono (by omega) (by omega)) (by omega) (by omega) (by omega), HB5.out.trans (ht.below (by omega) (by omega))⟩
end Go.Proofs.Ythnimmagaocipaa
set_option linter.unusedVariables false
namespace Go.Proofs.Ythnimmagaocipaa
open Go.ChangeShapes Go.WideShapes Go.ChangeAt Go.RowKit

set_option maxRecDepth 100000 in
set_option maxHeartbeats 4000000 in
theorem eqAcct_any (hi1 hi2 : Nat) (vh vc vs vl vh' vc' vs' vl' : Value) (a : AcctD) (w : World) (hz : acctSmall 1048576 a) (h1 : AcctR.rd hi1 w (aCells a vh vc vs vl) a) (h2 : AcctR.rd hi2 w (aCells a vh' vc' vs' vl') a) (hh1 : hi1 ≤ w.heap.size) (hh2 : hi2 ≤ w.heap.size) :
    Calls Try.prog 22 #[.agg #[.string (aId a), .int .i64 (aLim a), .int .i64 (aPos a), .int .i64 (aMost a), .int .i64 (aSum a), vh, .int .i64 (aR a).1, .int .i64 (aR a).2.1, vc, vs, vl], .agg #[.string (aId a), .int .i64 (aLim a), .int .i64 (aPos a), .int .i64 (aMost a), .int .i64 (aSum a), vh', .int .i64 (aR a).1, .int .i64 (aR a).2.1, vc', vs', vl']] w fun e w' => e = .returned (.bool true) ∧ Below w.heap.size w w' := by
  obtain ⟨vh0, vc0, vs0, vl0, hcs, r1, r2, r3, r4⟩ := acct_rd h1
  simp only [aCells, List.cons.injEq, and_true, true_and] at hcs
  obtain ⟨rfl, rfl, rfl, rfl⟩ := hcs
  clear h1
  obtain ⟨vh0, vc0, vs0, vl0, hcs, r1b, r2b, r3b, r4b⟩ := acct_rd h2
  simp only [aCells, List.cons.injEq, and_true, true_and] at hcs
  obtain ⟨rfl, rfl, rfl, rfl⟩ := hcs
  clear h2
  obtain ⟨z1, z2, z3, z4, z5⟩ := hz
  obtain ⟨id, lim, pos, most, sum, hs, ⟨sp, hd, cs, ss⟩, sl⟩ := a
  simp only [aId, aLim, aPos, aMost, aSum, aH, aS] at r1 r2 r3 r4 r1b r2b r3b r4b z1 z2 z3 z4 z5 ⊢
  obtain ⟨AH, cH, rfl, -⟩ := Rep.slice_form r1
  obtain ⟨AC, cC, rfl, -⟩ := r2.form
  obtain ⟨AS, cS, rfl, -⟩ := r3.form
  obtain ⟨AL, cL, rfl, -⟩ := Rep.slice_form r4
  obtain ⟨AH', cH', rfl, -⟩ := Rep.slice_form r1b
  obtain ⟨AC', cC', rfl, -⟩ := r2b.form
  obtain ⟨AS', cS', rfl, -⟩ := r3b.form
  obtain ⟨AL', cL', rfl, -⟩ := Rep.slice_form r4b
  have HQ1 := Lib.hid (fun W (hW : Below w.heap.size w W) => eqHolds_any hi1 hi2 _ _ hs W (by omega) (Rep.below (R := HoldsR) r1 hW hh1) (Rep.below (R := HoldsR) r1b hW hh2) (Nat.le_trans hh1 hW.size) (Nat.le_trans hh2 hW.size))
  have HQ2 := Lib.hid (fun W (hW : Below w.heap.size w W) => eqRing_any hi1 hi2 _ _ _ _ (sp, hd, cs, ss) W (r2.below hW hh1) (r3.below hW hh1) (r2b.below hW hh2) (r3b.below hW hh2) (Nat.le_trans hh1 hW.size) (Nat.le_trans hh2 hW.size) z2 z3)
  have HQ3 := Lib.hid (fun W (hW : Below w.heap.size w W) => eqSlots_any hi1 hi2 _ _ sl W (by omega) (fun x hx => Nat.le_trans (z5 x hx) (by omega)) (Rep.below (R := SlotsR) r4 hW hh1) (Rep.below (R := SlotsR) r4b hW hh2) (Nat.le_trans hh1 hW.size) (Nat.le_trans hh2 hW.size))
  clear r1 r2 r3 r4 r1b r2b r3b r4b z5
  have HB0 : Hid (∀ o1 o2, Below w.heap.size w ((w.alloc o1).alloc o2)) := Lib.hid fun o1 o2 => ((Below.refl _ _).alloc (Nat.le_refl _) _).alloc (by simp) _
  go_enter Try.func22, Try.ntmps22
  go_upto_region 1 with fail
  obtain ⟨W, hW⟩ : ∃ W, W = (w.alloc (.cells #[.string id, .int .i64 lim, .int .i64 pos, .int .i64 most, .int .i64 sum, .slice AH hs.length cH, .int .i64 sp, .int .i64 hd, .slice AC cs.length cC, .slice AS ss.length cS, .slice AL sl.length cL] 41)).alloc (.cells #[.string id, .int .i64 lim, .int .i64 pos, .int .i64 most, .int .i64 sum, .slice AH' hs.length cH', .int .i64 sp, .int .i64 hd, .slice AC' cs.length cC', .slice AS' ss.length cS', .slice AL' sl.length cL'] 41) := ⟨_, rfl⟩
  have b0 : bk W w.heap.size 41 [.string id, .int .i64 lim, .int .i64 pos, .int .i64 most, .int .i64 sum, .slice AH hs.length cH, .int .i64 sp, .int .i64 hd, .slice AC cs.length cC, .slice AS ss.length cS, .slice AL sl.length cL] := by rw [hW]; exact (bk.new w _ _).alloc _
  have b1 : bk W (w.heap.size + 1) 41 [.string id, .int .i64 lim, .int .i64 pos, .int .i64 most, .int .i64 sum, .slice AH' hs.length cH', .int .i64 sp, .int .i64 hd, .slice AC' cs.length cC', .slice AS' ss.length cS', .slice AL' sl.length cL'] := by rw [hW]; simpa using bk.new (w.alloc _) 41 [.string id, .int .i64 lim, .int .i64 pos, .int .i64 most, .int .i64 sum, .slice AH' hs.length cH', .int .i64 sp, .int .i64 hd, .slice AC' cs.length cC', .slice AS' ss.length cS', .slice AL' sl.length cL']
  have HBW : Hid (Below w.heap.size w W) := Lib.hid (by rw [hW]; exact HB0.out _ _)
  have y0 : w.heap.size + 2 ≤ W.heap.size := by rw [hW]; simp
  rw [← hW]
  clear hW HB0
  obtain ⟨⟨p0, p1, p2, p3, p4, p5, p6, p7, p8, p9, p10⟩, -⟩ := b0.eleven
  obtain ⟨⟨q0, q1, q2, q3, q4, q5, q6, q7, q8, q9, q10⟩, -⟩ := b1.eleven
  have B0 := Lib.hid b0
  have B1 := Lib.hid b1
  clear b0 b1
  go_wp2_with fail
  refine (HQ1.out W HBW.out).mono ?_
  rintro e w1 ⟨rfl, hb1⟩
  have y1 := hb1.size
  have HB1 : Hid (Below w.heap.size w w1) := Lib.hid (HBW.out.trans (hb1.mono (by omega)))
  have C0 := Lib.hid (B0.out.below hb1 (by omega))
  have C1 := Lib.hid (B1.out.below hb1 (by omega))
  clear hb1 HQ1 HBW B0 B1 p0 p1 p2 p3 p4 p5 p6 p7 p8 p9 p10 q0 q1 q2 q3 q4 q5 q6 q7 q8 q9 q10
  obtain ⟨⟨p0, p1, p2, p3, p4, p5, p6, p7, p8, p9, p10⟩, -⟩ := C0.out.eleven
  obtain ⟨⟨q0, q1, q2, q3, q4, q5, q6, q7, q8, q9, q10⟩, -⟩ := C1.out.eleven
  go_wp2_with fail
  refine (HQ2.out w1 HB1.out).mono ?_
  rintro e w2 ⟨rfl, hb2⟩
  have y2 := hb2.size
  have HB2 : Hid (Below w.heap.size w w2) := Lib.hid (HB1.out.trans (hb2.mono (by omega)))
  have D0 := Lib.hid (C0.out.below hb2 (by omega))
  have D1 := Lib.hid (C1.out.below hb2 (by omega))
  clear hb2 HQ2 HB1 C0 C1 p0 p1 p2 p3 p4 p5 p6 p7 p8 p9 p10 q0 q1 q2 q3 q4 q5 q6 q7 q8 q9 q10
  obtain ⟨⟨p0, p1, p2, p3, p4, p5, p6, p7, p8, p9, p10⟩, -⟩ := D0.out.eleven
  obtain ⟨⟨q0, q1, q2, q3, q4, q5, q6, q7, q8, q9, q10⟩, -⟩ := D1.out.eleven
  go_wp2_with fail
  refine (HQ3.out w2 HB2.out).mono ?_
  rintro e w3 ⟨rfl, hb3⟩
  have HB3 : Hid (Below w.heap.size w w3) := Lib.hid (HB2.out.trans (hb3.mono (by omega)))
  clear hb3
  go_wp2
  go_ret
  exact ⟨rfl, HB3.out⟩
def acctSz (a : AcctD) : Nat := (aId a).size + holdsSz (aH a) + ((aR a).2.2.1.length + (aR a).2.2.2.length) + slotsSz (aS a)
/-- what an account that is given may be -/
structure acctBig (a : AcctD) : Prop where
  i : (aId a).size ≤ maxLen
  h : (aH a).length ≤ maxLen
  hi : ∀ x ∈ aH a, x.1.size ≤ maxLen
  c : (aR a).2.2.1.length ≤ maxLen
  s : (aR a).2.2.2.length ≤ maxLen
  l : (aS a).length ≤ maxLen
  li : ∀ x ∈ aS a, x.1.size ≤ maxLen ∧ x.2.1.size ≤ maxLen ∧ x.2.2.length ≤ maxLen
set_option maxRecDepth 100000 in
set_option maxHeartbeats 4000000 in
theorem szAcct_any (hi : Nat) (vh vc vs vl : Value) (a : AcctD) (left : Int) (w : World) (hz : acctBig a) (h : AcctR.rd hi w (aCells a vh vc vs vl) a) (hh : hi ≤ w.heap.size) (l0 : 0 ≤ left) (l1 : left ≤ 1048576) :
    Calls Try.prog 20 #[.agg #[.string (aId a), .int .i64 (aLim a), .int .i64 (aPos a), .int .i64 (aMost a), .int .i64 (aSum a), vh, .int .i64 (aR a).1, .int .i64 (aR a).2.1, vc, vs, vl], .int .i64 left] w (szRes left (acctSz a) w) := by
  obtain ⟨vh0, vc0, vs0, vl0, hcs, r1, r2, r3, r4⟩ := acct_rd h
  simp only [aCells, List.cons.injEq, and_true, true_and] at hcs
  obtain ⟨rfl, rfl, rfl, rfl⟩ := hcs
  clear h
  obtain ⟨z0, z1, z1', z2, z3, z4, z5⟩ := hz
  obtain ⟨id, lim, pos, most, sum, hs, ⟨sp, hd, cs, ss⟩, sl⟩ := a
  simp only [aId, aLim, aPos, aMost, aSum, aH, aS] at r1 r2 r3 r4 z0 z1 z1' z2 z3 z4 z5 ⊢
  obtain ⟨AH, cH, rfl, -⟩ := Rep.slice_form r1
  obtain ⟨AC, cC, rfl, -⟩ := r2.form
  obtain ⟨AS, cS, rfl, -⟩ := r3.form
  obtain ⟨AL, cL, rfl, -⟩ := Rep.slice_form r4
  have HZ : Hid (((acctSz (id, lim, pos, most, sum, hs, (sp, hd, cs, ss), sl) : Nat) : Int) = (id.size : Int) + (holdsSz hs : Int) + ringSz (sp, hd, cs, ss) + (slotsSz sl : Int)) := Lib.hid (by unfold acctSz ringSz; simp only [aId, aH, aS]; omega)
  have hrs : 0 ≤ ringSz (sp, hd, cs, ss) := by unfold ringSz; omega
  have HQ1 := Lib.hid (fun L W (hW : Below w.heap.size w W) (a0 : 0 ≤ L) (a1 : L ≤ 1048576) => szHolds_any hi _ hs L W z1 z1' (Rep.below (R := HoldsR) r1 hW hh) (Nat.le_trans hh hW.size) a0 a1)
  have HQ2 := Lib.hid (fun L W (hW : Below w.heap.size w W) (a0 : 0 ≤ L) (a1 : L ≤ 1048576) => szRing_any _ _ (sp, hd, cs, ss) L W (r2.below hW hh) (r3.below hW hh) z2 z3 a0 a1)
  have HQ3 := Lib.hid (fun L W (hW : Below w.heap.size w W) (a0 : 0 ≤ L) (a1 : L ≤ 1048576) => szSlots_any hi _ sl L W z4 z5 (Rep.below (R := SlotsR) r4 hW hh) (Nat.le_trans hh hW.size) a0 a1)
  clear r1 r2 r3 r4 z1 z1' z2 z3 z4 z5
  unfold maxLen at z0
  go_enter Try.func20, Try.ntmps20
  go_upto_region 1 with fail
  obtain ⟨W, hW⟩ : ∃ W, W = w.alloc (.cells #[.string id, .int .i64 lim, .int .i64 pos, .int .i64 most, .int .i64 sum, .slice AH hs.length cH, .int .i64 sp, .int .i64 hd, .slice AC cs.length cC, .slice AS ss.length cS, .slice AL sl.length cL] 53) := ⟨_, rfl⟩
  have b0 : bk W w.heap.size 53 [.string id, .int .i64 lim, .int .i64 pos, .int .i64 most, .int .i64 sum, .slice AH hs.length cH, .int .i64 sp, .int .i64 hd, .slice AC cs.length cC, .slice AS ss.length cS, .slice AL sl.length cL] := by rw [hW]; exact bk.new w _ _
  have HBW : Hid (Below w.heap.size w W) := Lib.hid (by rw [hW]; exact (Below.refl _ _).alloc (Nat.le_refl _) _)
  have y0 : w.heap.size + 1 ≤ W.heap.size := by rw [hW]; simp
  rw [← hW]
  clear hW
  obtain ⟨⟨p0, p1, p2, p3, p4, p5, p6, p7, p8, p9, p10⟩, -⟩ := b0.eleven
  have B0 := Lib.hid b0
  clear b0
  by_cases n0 : left - (id.size : Int) < 0
  · go_wp2
    go_ret
    exact ⟨_, rfl, .inl rfl, HBW.out⟩
  go_wp2_with fail
  refine (HQ1.out _ W HBW.out (by omega) (by omega)).mono ?_
  rintro e w1 ⟨q1, rfl, hq1, hb1⟩
  have y1 := hb1.size
  have HB1 : Hid (Below w.heap.size w w1) := Lib.hid (HBW.out.trans (hb1.mono (by omega)))
  have C0 := Lib.hid (B0.out.below hb1 (by omega))
  clear hb1 HQ1 HBW B0 p0 p1 p2 p3 p4 p5 p6 p7 p8 p9 p10
  rcases hq1 with rfl | ⟨hq1, hp1⟩
  · go_wp2
    go_ret
    exact ⟨_, rfl, .inl rfl, HB1.out⟩
  have hr1 : q1 ≤ 1048576 := by omega
  have HE1 := Lib.hid hq1
  clear hq1
  obtain ⟨⟨p0, p1, p2, p3, p4, p5, p6, p7, p8, p9, p10⟩, -⟩ := C0.out.eleven
  go_wp2_with fail
  refine (HQ2.out _ w1 HB1.out (by omega) (by omega)).mono ?_
  rintro e w2 ⟨q2, rfl, hq2, hb2⟩
  have y2 := hb2.size
  have HB2 : Hid (Below w.heap.size w w2) := Lib.hid (HB1.out.trans (hb2.mono (by omega)))
  have D0 := Lib.hid (C0.out.below hb2 (by omega))
  clear hb2 HQ2 HB1 C0 p0 p1 p2 p3 p4 p5 p6 p7 p8 p9 p10
  rcases hq2 with rfl | ⟨hq2, hp2⟩
  · go_wp2
    go_ret
    exact ⟨_, rfl, .inl rfl, HB2.out⟩
  have hr2 : q2 ≤ 1048576 := by omega
  have HE2 := Lib.hid hq2
  clear hq2
  obtain ⟨⟨p0, p1, p2, p3, p4, p5, p6, p7, p8, p9, p10⟩, -⟩ := D0.out.eleven
  go_wp2_with fail
  refine (HQ3.out _ w2 HB2.out (by omega) (by omega)).mono ?_
  rintro e w3 ⟨q3, rfl, hq3, hb3⟩
  have HB3 : Hid (Below w.heap.size w w3) := Lib.hid (HB2.out.trans (hb3.mono (by omega)))
  clear hb3
  rcases hq3 with rfl | ⟨hq3, hp3⟩
  · go_wp2
    go_ret
    exact ⟨_, rfl, .inl rfl, HB3.out⟩
  have HE3 := Lib.hid hq3
  clear hq3
  go_wp2
  go_ret
  exact ⟨_, rfl, .inr ⟨by rw [HE3.out, HE2.out, HE1.out, HZ.out]; omega, hp3⟩, HB3.out⟩
end Go.Proofs.Ythnimmagaocipaa
set_option linter.unusedVariables false
namespace Go.Proofs.Ythnimmagaocipaa
open Go.ChangeShapes Go.WideShapes Go.ChangeAt Go.RowKit

/-- a layout's memory within an interval, in a form of one's own -/
structure Ivl {α : Type} (R : Rep α) where
  I : Nat → Nat → World → List Value → α → Prop
  keep : ∀ {lo hi w w' cs x}, I lo hi w cs x → (∀ b, lo ≤ b → b < hi → w'.heap[b]? = w.heap[b]?) → I lo hi w' cs x
  mono : ∀ {lo hi lo' hi' w cs x}, I lo hi w cs x → lo' ≤ lo → hi ≤ hi' → I lo' hi' w cs x
  mine : ∀ {lo hi w cs x}, I lo hi w cs x → R.mine lo hi w cs x
/-- only the cells from o up to o + k of block b, and blocks from P up to Q, have turned; new blocks have come -/
structure Edit (b o k P Q : Nat) (w w' : World) : Prop where
  os : w'.os = w.os
  tape : w'.tape = w.tape
  output : w'.output = w.output
  size : w.heap.size ≤ w'.heap.size
  block : ∀ c, c < w.heap.size → c ≠ b → (c < P ∨ Q ≤ c) → w'.heap[c]? = w.heap[c]?
  cell : ∀ t, (t < o ∨ o + k ≤ t) → w'.cell? ⟨b, t, none⟩ = w.cell? ⟨b, t, none⟩
  free : ∀ t, w'.frozen? ⟨b, t, none⟩ = w.frozen? ⟨b, t, none⟩
section
variable {b o k P Q : Nat} {u v w : World}
set_option maxRecDepth 100000 in
theorem Edit.refl (b o k P Q : Nat) (w : World) : Edit b o k P Q w w := ⟨rfl, rfl, rfl, Nat.le_refl _, fun _ _ _ _ => rfl, fun _ _ => rfl, fun _ => rfl⟩
set_option maxRecDepth 100000 in
theorem Edit.trans (h : Edit b o k P Q u v) (g : Edit b o k P Q v w) : Edit b o k P Q u w :=
  ⟨g.os.trans h.os, g.tape.trans h.tape, g.output.trans h.output, Nat.le_trans h.size g.size, fun c hc h1 h2 => (g.block c (Nat.lt_of_lt_of_le hc h.size) h1 h2).trans (h.block c hc h1 h2), fun t ht => (g.cell t ht).trans (h.cell t ht), fun t => (g.free t).trans (h.free t)⟩
set_option maxRecDepth 100000 in
theorem Edit.set (h : Edit b o k P Q u v) (t : Nat) (x : Value) (h1 : o ≤ t) (h2 : t < o + k) : Edit b o k P Q u (v.setCell ⟨b, t, none⟩ x) :=
  ⟨h.os, h.tape, h.output, by simpa [World.setCell] using h.size, fun c hc hb hh => (Below.heap_setCell _ _ _ _ hb).trans (h.block c hc hb hh), fun s hs => (World.cell?_setCell_other _ _ _ _ (fun he => by have := congrArg Addr.off he; simp at this; omega)).trans (h.cell s hs), fun s => by have := h.free s; simpa using this⟩
set_option maxRecDepth 100000 in
theorem Edit.turned {lo hi : Nat} (h : Edit b o k P Q u v) (ht : Turned lo hi v w) (h1 : P ≤ lo) (h2 : hi ≤ Q) (h3 : b < lo ∨ hi ≤ b) (hb : b < u.heap.size) : Edit b o k P Q u w :=
  have hk := ht.block b (Nat.lt_of_lt_of_le hb h.size) h3
  ⟨ht.os.trans h.os, ht.tape.trans h.tape, ht.output.trans h.output, Nat.le_trans h.size ht.size, fun c hc hcb hh => (ht.block c (Nat.lt_of_lt_of_le hc h.size) (by omega)).trans (h.block c hc hcb hh), fun t ht => (cell_keep hk).trans (h.cell t ht), fun t => (frozen_keep hk).trans (h.free t)⟩
set_option maxRecDepth 100000 in
theorem Edit.below {B : Nat} (h : Edit b o k P Q u v) (hb : Below B v w) (hB : v.heap.size ≤ B) (hu : b < u.heap.size) : Edit b o k P Q u w :=
  have hk := hb.block b (Nat.lt_of_lt_of_le hu (Nat.le_trans h.size hB))
  ⟨hb.os.trans h.os, hb.tape.trans h.tape, hb.output.trans h.output, Nat.le_trans h.size hb.size, fun c hc hcb hh => (hb.block c (Nat.lt_of_lt_of_le hc (Nat.le_trans h.size hB))).trans (h.block c hc hcb hh), fun t ht => (cell_keep hk).trans (h.cell t ht), fun t => (frozen_keep hk).trans (h.free t)⟩
set_option maxRecDepth 100000 in
theorem Edit.sets (us : List Value) : ∀ (v : World) (p : Nat), Edit b o k P Q u v → o ≤ p → p + us.length ≤ o + k → Edit b o k P Q u (setsAt v b p us) := by
  induction us with
  | nil => intro v p h _ _; exact h
  | cons x us ih =>
    intro v p h h1 h2
    simp only [List.length_cons] at h2
    exact ih _ (p + 1) (h.set p x h1 (by omega)) (by omega) (by omega)
end
section
variable {α : Type} {R : Rep α}
/-- elements in block b from off on; element j's parts lie between p j and q j, apart from all others' and from the row -/
structure RowI (D : Ivl R) (lo hi : Nat) (w : World) (b off : Nat) (xs : List (List Value × α)) (p q : Nat → Nat) : Prop where
  at_ : ∀ j x, xs[j]? = some x → x.1.length = R.k ∧ atL w b (off + j * R.k) x.1
  free : ∀ j, j < xs.length → freeL w b (off + j * R.k) R.k
  one : ∀ j x, xs[j]? = some x → D.I (p j) (q j) w x.1 x.2
  apart : ∀ i j, i < xs.length → j < xs.length → i ≠ j → q i ≤ p j ∨ q j ≤ p i
  in_ : ∀ j, j < xs.length → lo ≤ p j ∧ q j ≤ hi ∧ (b < p j ∨ q j ≤ b)
  blk : lo ≤ b ∧ b < hi
variable {D : Ivl R} {lo hi b off : Nat} {w w' : World} {xs : List (List Value × α)} {p q : Nat → Nat}
set_option maxRecDepth 100000 in
theorem RowI.keep (h : RowI D lo hi w b off xs p q) (hk : ∀ c, lo ≤ c → c < hi → w'.heap[c]? = w.heap[c]?) : RowI D lo hi w' b off xs p q := by
  obtain ⟨h1, h2, h3, h4, h5, h6⟩ := h
  refine ⟨fun j x hx => ⟨(h1 j x hx).1, (h1 j x hx).2.keep (hk b h6.1 h6.2)⟩, fun j hj t ht => (frozen_keep (hk b h6.1 h6.2)).trans (h2 j hj t ht), fun j x hx => D.keep (h3 j x hx) fun c c1 c2 => hk c ?_ ?_, h4, h5, h6⟩
  · have := h5 j (List.getElem?_eq_some_iff.1 hx).1; omega
  · have := h5 j (List.getElem?_eq_some_iff.1 hx).1; omega
set_option maxRecDepth 100000 in
theorem RowI.below {B : Nat} (h : RowI D lo hi w b off xs p q) (hb : Below B w w') (hB : hi ≤ B) : RowI D lo hi w' b off xs p q := h.keep fun c _ hc => hb.block c (by omega)
set_option maxRecDepth 100000 in
theorem RowI.turned {l2 h2 : Nat} (h : RowI D lo hi w b off xs p q) (ht : Turned l2 h2 w w') (hd : hi ≤ l2 ∨ h2 ≤ lo) (hs : hi ≤ w.heap.size) : RowI D lo hi w' b off xs p q := h.keep fun c h1 h2 => ht.block c (by omega) (by omega)
set_option maxRecDepth 100000 in
theorem RowI.mono {lo' hi' : Nat} (h : RowI D lo hi w b off xs p q) (h1 : lo' ≤ lo) (h2 : hi ≤ hi') : RowI D lo' hi' w b off xs p q :=
  ⟨h.at_, h.free, h.one, h.apart, fun j hj => by have := h.in_ j hj; omega, by have := h.blk; omega⟩
set_option maxRecDepth 100000 in
/-- a row without elements -/
theorem RowI.nil (D : Ivl R) {lo hi : Nat} (w : World) {b : Nat} (off : Nat) (h : lo ≤ b ∧ b < hi) : RowI D lo hi w b off [] (fun _ => 0) (fun _ => 0) :=
  ⟨fun j x hx => by simp at hx, fun j hj => absurd hj (by simp), fun j x hx => by simp at hx, fun i j hi => absurd hi (by simp), fun j hj => absurd hj (by simp), h⟩
set_option maxRecDepth 100000 in
/-- one more element, behind the others -/
theorem RowI.push {P Q hi' : Nat} {y : List Value × α} (h : RowI D lo hi w b off xs p q) (he : Edit b (off + xs.length * R.k) R.k P P w w') (hl : y.1.length = R.k) (ha : atL w' b (off + xs.length * R.k) y.1) (hf : freeL w b (off + xs.length * R.k) R.k) (hI : D.I P Q w' y.1 y.2) (hd : ∀ i, i < xs.length → q i ≤ P ∨ Q ≤ p i) (hin : lo ≤ P ∧ Q ≤ hi' ∧ (b < P ∨ Q ≤ b)) (hh : hi ≤ hi') (hs : hi ≤ w.heap.size) :
    RowI D lo hi' w' b off (xs ++ [y]) (fun i => if i = xs.length then P else p i) (fun i => if i = xs.length then Q else q i) := by
  obtain ⟨h1, h2, h3, h4, h5, h6⟩ := h
  have hlen : (xs ++ [y]).length = xs.length + 1 := by simp
  have hcase : ∀ {i : Nat} {x : List Value × α}, (xs ++ [y])[i]? = some x → (i = xs.length ∧ x = y) ∨ (i < xs.length ∧ xs[i]? = some x) := fun {i x} hx => by
    by_cases e : i < xs.length
    · rw [List.getElem?_append_left e] at hx; exact .inr ⟨e, hx⟩
    · have hi' := (List.getElem?_eq_some_iff.1 hx).1
      rw [hlen] at hi'
      have e' : i = xs.length := by omega
      subst e'
      rw [List.getElem?_append_right (Nat.le_refl _), Nat.sub_self] at hx
      exact .inl ⟨rfl, (Option.some.inj hx).symm⟩
  refine ⟨fun i x hx => ?_, fun i hi t ht => ?_, fun i x hx => ?_, fun i i' hi hi' hne => ?_, fun i hi => ?_, by omega⟩
  · rcases hcase hx with ⟨rfl, rfl⟩ | ⟨e, hx⟩
    · exact ⟨hl, ha⟩
    · refine ⟨(h1 i x hx).1, fun t u hu => ?_⟩
      have ht := (List.getElem?_eq_some_iff.1 hu).1
      rw [(h1 i x hx).1] at ht
      rw [he.cell _ (by have := mul_step (k := R.k) e; omega)]
      exact (h1 i x hx).2 t u hu
  · rw [hlen] at hi
    refine (he.free _).trans ?_
    by_cases e : i = xs.length
    · subst e; exact hf t ht
    · exact h2 i (by omega) t ht
  · rcases hcase hx with ⟨rfl, rfl⟩ | ⟨e, hx⟩
    · simp only [if_true]; exact hI
    · show D.I (if i = xs.length then P else p i) (if i = xs.length then Q else q i) w' x.1 x.2
      rw [if_neg (by omega), if_neg (by omega)]
      refine D.keep (h3 i x hx) fun c c1 c2 => he.block c ?_ ?_ (by omega)
      · have := h5 i e; omega
      · have := h5 i e; omega
  · rw [hlen] at hi hi'
    show (if i = xs.length then Q else q i) ≤ (if i' = xs.length then P else p i') ∨ (if i' = xs.length then Q else q i') ≤ (if i = xs.length then P else p i)
    by_cases e : i = xs.length
    · rw [if_pos e, if_pos e, if_neg (by omega), if_neg (by omega)]
      have := hd i' (by omega); omega
    · rw [if_neg e, if_neg e]
      by_cases e' : i' = xs.length
      · rw [if_pos e', if_pos e']; exact hd i (by omega)
      · rw [if_neg e', if_neg e']; exact h4 i i' (by omega) (by omega) hne
  · rw [hlen] at hi
    show lo ≤ (if i = xs.length then P else p i) ∧ (if i = xs.length then Q else q i) ≤ hi' ∧ (b < (if i = xs.length then P else p i) ∨ (if i = xs.length then Q else q i) ≤ b)
    by_cases e : i = xs.length
    · rw [if_pos e, if_pos e]; exact hin
    · rw [if_neg e, if_neg e]; have := h5 i (by omega); omega
set_option maxRecDepth 100000 in
/-- element j takes other memory: between P and Q -/
theorem RowI.put {j P Q hi' : Nat} {y : List Value × α} (h : RowI D lo hi w b off xs p q) (hj : j < xs.length) (he : Edit b (off + j * R.k) R.k (p j) (q j) w w') (hl : y.1.length = R.k) (ha : atL w' b (off + j * R.k) y.1) (hI : D.I P Q w' y.1 y.2) (hd : ∀ i, i < xs.length → i ≠ j → q i ≤ P ∨ Q ≤ p i) (hin : lo ≤ P ∧ Q ≤ hi' ∧ (b < P ∨ Q ≤ b)) (hh : hi ≤ hi') (hs : hi ≤ w.heap.size) :
    RowI D lo hi' w' b off (xs.set j y) (fun i => if i = j then P else p i) (fun i => if i = j then Q else q i) := by
  obtain ⟨h1, h2, h3, h4, h5, h6⟩ := h
  refine ⟨fun i x hx => ?_, fun i hi t ht => ?_, fun i x hx => ?_, fun i i' hi hi' hne => ?_, fun i hi => ?_, by omega⟩
  · by_cases e : j = i
    · subst e; rw [List.getElem?_set_self hj] at hx; cases hx; exact ⟨hl, ha⟩
    · rw [List.getElem?_set_ne e] at hx
      refine ⟨(h1 i x hx).1, fun t u hu => ?_⟩
      have ht := (List.getElem?_eq_some_iff.1 hu).1
      rw [(h1 i x hx).1] at ht
      rw [he.cell _ (by
        rcases Nat.lt_or_gt_of_ne e with h | h
        · have := mul_step (k := R.k) h; omega
        · have := mul_step (k := R.k) h; omega)]
      exact (h1 i x hx).2 t u hu
  · rw [List.length_set] at hi
    exact (he.free _).trans (h2 i hi t ht)
  · by_cases e : j = i
    · subst e; rw [List.getElem?_set_self hj] at hx; cases hx
      simp only [if_true]; exact hI
    · rw [List.getElem?_set_ne e] at hx
      have hil := (List.getElem?_eq_some_iff.1 hx).1
      show D.I (if i = j then P else p i) (if i = j then Q else q i) w' x.1 x.2
      rw [if_neg (Ne.symm e), if_neg (Ne.symm e)]
      refine D.keep (h3 i x hx) fun c c1 c2 => he.block c ?_ ?_ ?_
      · have := h5 i hil; omega
      · have := h5 i hil; omega
      · have := h4 i j hil hj (Ne.symm e); omega
  · rw [List.length_set] at hi hi'
    show (if i = j then Q else q i) ≤ (if i' = j then P else p i') ∨ (if i' = j then Q else q i') ≤ (if i = j then P else p i)
    by_cases e : i = j
    · rw [if_pos e, if_pos e, if_neg (by omega), if_neg (by omega)]
      have := hd i' hi' (by omega); omega
    · rw [if_neg e, if_neg e]
      by_cases e' : i' = j
      · rw [if_pos e', if_pos e']; exact hd i hi e
      · rw [if_neg e', if_neg e']; exact h4 i i' hi hi' hne
  · rw [List.length_set] at hi
    show lo ≤ (if i = j then P else p i) ∧ (if i = j then Q else q i) ≤ hi' ∧ (b < (if i = j then P else p i) ∨ (if i = j then Q else q i) ≤ b)
    by_cases e : i = j
    · rw [if_pos e, if_pos e]; exact hin
    · rw [if_neg e, if_neg e]; have := h5 i hi; omega
set_option maxRecDepth 100000 in
theorem RowI.mine {c n : Nat} (h : RowI D lo hi w b off xs p q) (hn : n = xs.length) (hc : n ≤ c) : R.slice.mine lo hi w [.slice (some ⟨b, off, none⟩) n c] (xs.map (·.2)) := by
  subst hn
  obtain ⟨h1, h2, h3, h4, h5, h6⟩ := h
  have hF : ∀ j : Nat, ∃ F : List Nat, ∀ x, xs[j]? = some x → R.own w x.1 x.2 F ∧ F.Nodup ∧ ∀ b ∈ F, p j ≤ b ∧ b < q j := fun j => by
    cases hx : xs[j]? with
    | none => exact ⟨[], fun x h => by cases h⟩
    | some y =>
      obtain ⟨F, hF⟩ := D.mine (h3 j y hx)
      exact ⟨F, fun x h => by cases h; exact hF⟩
  let F : Nat → List Nat := fun j => Classical.choose (hF j)
  have hFs : ∀ j x, xs[j]? = some x → R.own w x.1 x.2 (F j) ∧ (F j).Nodup ∧ ∀ b ∈ F j, p j ≤ b ∧ b < q j := fun j => Classical.choose_spec (hF j)
  have hgt : ∀ (j : Nat) (hj : j < xs.length), (F j).Nodup ∧ ∀ b ∈ F j, p j ≤ b ∧ b < q j := fun j hj => (hFs j _ (List.getElem?_eq_getElem hj)).2
  have hin : ∀ x ∈ List.flatten ((List.range xs.length).map F), ∃ j, j < xs.length ∧ p j ≤ x ∧ x < q j := fun x hx => by
    obtain ⟨G, hG, hxG⟩ := List.mem_flatten.1 hx
    obtain ⟨j, hj, rfl⟩ := List.mem_map.1 hG
    have hj' := List.mem_range.1 hj
    exact ⟨j, hj', (hgt j hj').2 x hxG⟩
  have hlm : (xs.map (·.2)).length = xs.length := List.length_map ..
  refine ⟨b :: List.flatten ((List.range xs.length).map F), ⟨some ⟨b, off, none⟩, c, by rw [hlm], by rw [hlm]; exact hc, .inr ⟨b, off, _, rfl, rfl, by simp, fun j x G hx hG => ?_⟩⟩, ?_, ?_⟩
  · rw [List.getElem?_map] at hx
    obtain ⟨z, hz, rfl⟩ := Option.map_eq_some_iff.1 hx
    have hj := (List.getElem?_eq_some_iff.1 hz).1
    have hG' : G = F j := by
      rw [List.getElem?_map, List.getElem?_range hj] at hG
      exact (Option.some.inj hG).symm
    subst hG'
    exact ⟨z.1, (hFs j z hz).1, (h1 j z hz).2, h2 j hj⟩
  · rw [List.nodup_cons]
    refine ⟨fun hx => by obtain ⟨j, hj, h3⟩ := hin b hx; have := h5 j hj; omega, ?_⟩
    rw [List.Nodup, List.pairwise_flatten]
    refine ⟨fun G hG => ?_, ?_⟩
    · obtain ⟨j, hj, rfl⟩ := List.mem_map.1 hG
      exact (hgt j (List.mem_range.1 hj)).1
    · rw [List.pairwise_map]
      refine List.Pairwise.imp_of_mem (R := fun i j : Nat => i < j) (fun {i j} hi hj hij x hx y hy e => ?_) List.pairwise_lt_range
      have hi' := List.mem_range.1 hi
      have hj' := List.mem_range.1 hj
      have a1 := (hgt i hi').2 x hx
      have a2 := (hgt j hj').2 y hy
      have := h4 i j hi' hj' (by omega)
      omega
  · intro x hx
    rcases List.mem_cons.1 hx with rfl | hx
    · exact h6
    · obtain ⟨j, hj, h3⟩ := hin x hx
      have := h5 j hj
      omega
/-- a slice of such elements -/
def SliceI (D : Ivl R) (lo hi : Nat) (w : World) (cs : List Value) (l : List α) : Prop :=
  ∃ A c, cs = [.slice A l.length c] ∧ l.length ≤ c ∧ (l = [] ∨ ∃ b off xs p q, A = some ⟨b, off, none⟩ ∧ xs.map (·.2) = l ∧ RowI D lo hi w b off xs p q)
def Ivl.slice (D : Ivl R) : Ivl R.slice where
  I := SliceI D
  keep := by
    rintro lo hi w w' cs l ⟨A, c, rfl, hc, h⟩ hk
    refine ⟨A, c, rfl, hc, ?_⟩
    rcases h with rfl | ⟨b, off, xs, p, q, rfl, rfl, h⟩
    · exact .inl rfl
    · exact .inr ⟨b, off, xs, p, q, rfl, rfl, h.keep hk⟩
  mono := by
    rintro lo hi lo' hi' w cs l ⟨A, c, rfl, hc, h⟩ h1 h2
    refine ⟨A, c, rfl, hc, ?_⟩
    rcases h with rfl | ⟨b, off, xs, p, q, rfl, rfl, h⟩
    · exact .inl rfl
    · exact .inr ⟨b, off, xs, p, q, rfl, rfl, h.mono h1 h2⟩
  mine := by
    rintro lo hi w cs l ⟨A, c, rfl, hc, h⟩
    rcases h with rfl | ⟨b, off, xs, p, q, rfl, rfl, h⟩
    · exact ⟨[], ⟨A, c, rfl, hc, .inl ⟨rfl, rfl⟩⟩, List.nodup_nil, by simp⟩
    · exact h.mine (List.length_map ..) hc
set_option maxRecDepth 100000 in
theorem Ivl.rd {lo hi : Nat} {w : World} {cs : List Value} {x : α} (D : Ivl R) (h : D.I lo hi w cs x) : R.rd hi w cs x := (D.mine h).rd
set_option maxRecDepth 100000 in
theorem Ivl.below {B lo hi : Nat} {w w' : World} {cs : List Value} {x : α} (D : Ivl R) (h : D.I lo hi w cs x) (hb : Below B w w') (hB : hi ≤ B) : D.I lo hi w' cs x := D.keep h fun c _ hc => hb.block c (by omega)
set_option maxRecDepth 100000 in
theorem Ivl.turned {l2 h2 lo hi : Nat} {w w' : World} {cs : List Value} {x : α} (D : Ivl R) (h : D.I lo hi w cs x) (ht : Turned l2 h2 w w') (hd : hi ≤ l2 ∨ h2 ≤ lo) (hs : hi ≤ w.heap.size) : D.I lo hi w' cs x := D.keep h fun c h1 h2 => ht.block c (by omega) (by omega)
end
end Go.Proofs.Ythnimmagaocipaa
set_option linter.unusedVariables false
namespace Go.Proofs.Ythnimmagaocipaa
open Go.ChangeShapes Go.WideShapes Go.ChangeAt Go.RowKit

abbrev BookD := List AcctD
def AcctsR : Rep BookD := AcctR.slice
set_option maxRecDepth 100000 in
theorem AcctI.keep {lo hi : Nat} {w w' : World} {vh vc vs vl : Value} {a : AcctD} (h : AcctI lo hi w vh vc vs vl a) (hk : ∀ b, lo ≤ b → b < hi → w'.heap[b]? = w.heap[b]?) : AcctI lo hi w' vh vc vs vl a := by
  obtain ⟨l1, h1, l2, h2, l3, h3, m1, m2, m3, hq, d⟩ := h
  exact ⟨l1, h1, l2, h2, l3, h3, m1.keep fun b a c => hk b (by omega) (by omega), m2.keep fun b a c => hk b (by omega) (by omega), m3.keep fun b a c => hk b (by omega) (by omega), hq, d⟩
def AcctIv : Ivl AcctR where
  I lo hi w cs a := ∃ vh vc vs vl, cs = aCells a vh vc vs vl ∧ AcctI lo hi w vh vc vs vl a
  keep := by
    rintro lo hi w w' cs a ⟨vh, vc, vs, vl, rfl, h⟩ hk
    exact ⟨vh, vc, vs, vl, rfl, h.keep hk⟩
  mono := by
    rintro lo hi lo' hi' w cs a ⟨vh, vc, vs, vl, rfl, h⟩ h1 h2
    exact ⟨vh, vc, vs, vl, rfl, h.mono h1 h2⟩
  mine := by
    rintro lo hi w cs a ⟨vh, vc, vs, vl, rfl, h⟩
    exact h.mine
def AcctsIv : Ivl AcctsR := AcctIv.slice
set_option maxRecDepth 100000 in
theorem acct_forms {hi : Nat} {w : World} {cs : List Value} {a : AcctD} (h : AcctR.rd hi w cs a) : ∃ AH cH AC cC AS cS AL cL, cs = aCells a (.slice AH (aH a).length cH) (.slice AC (aR a).2.2.1.length cC) (.slice AS (aR a).2.2.2.length cS) (.slice AL (aS a).length cL) := by
  obtain ⟨vh, vc, vs, vl, rfl, h1, h2, h3, h4⟩ := acct_rd h
  obtain ⟨AH, cH, rfl, -⟩ := Rep.slice_form h1
  obtain ⟨AC, cC, rfl, -⟩ := h2.form
  obtain ⟨AS, cS, rfl, -⟩ := h3.form
  obtain ⟨AL, cL, rfl, -⟩ := Rep.slice_form h4
  exact ⟨AH, cH, AC, cC, AS, cS, AL, cL, rfl⟩
set_option maxRecDepth 100000 in
/-- the eleven cells of an element -/
theorem atL.eleven {w : World} {b o : Nat} {a c d e f i j k l m n : Value} (h : atL w b o [a, c, d, e, f, i, j, k, l, m, n]) :
    w.cell? ⟨b, o, none⟩ = some a ∧ w.cell? ⟨b, o + 1, none⟩ = some c ∧ w.cell? ⟨b, o + 2, none⟩ = some d ∧ w.cell? ⟨b, o + 3, none⟩ = some e ∧ w.cell? ⟨b, o + 4, none⟩ = some f ∧ w.cell? ⟨b, o + 5, none⟩ = some i ∧ w.cell? ⟨b, o + 6, none⟩ = some j ∧ w.cell? ⟨b, o + 7, none⟩ = some k ∧ w.cell? ⟨b, o + 8, none⟩ = some l ∧ w.cell? ⟨b, o + 9, none⟩ = some m ∧ w.cell? ⟨b, o + 10, none⟩ = some n :=
  ⟨h 0 _ rfl, h 1 _ rfl, h 2 _ rfl, h 3 _ rfl, h 4 _ rfl, h 5 _ rfl, h 6 _ rfl, h 7 _ rfl, h 8 _ rfl, h 9 _ rfl, h 10 _ rfl⟩
set_option maxRecDepth 100000 in
theorem atL.below {w w' : World} {b o B : Nat} {us : List Value} (h : atL w b o us) (hb : Below B w w') (hB : b < B) : atL w' b o us := h.keep (hb.block b hB)
set_option maxRecDepth 100000 in
theorem accts_rd {hi : Nat} {w : World} {v : Value} {l : BookD} (h : AcctsR.rd hi w [v] l) :
    ∃ A c, v = .slice A l.length c ∧ l.length ≤ c ∧ ∀ j x, l[j]? = some x → ∃ b off AH cH AC cC AS cS AL cL, A = some ⟨b, off, none⟩ ∧ b < hi ∧ atL w b (off + j * 11) (aCells x (.slice AH (aH x).length cH) (.slice AC (aR x).2.2.1.length cC) (.slice AS (aR x).2.2.2.length cS) (.slice AL (aS x).length cL)) ∧ AcctR.rd hi w (aCells x (.slice AH (aH x).length cH) (.slice AC (aR x).2.2.1.length cC) (.slice AS (aR x).2.2.2.length cS) (.slice AL (aS x).length cL)) x := by
  obtain ⟨A, c, hv, hc, hj⟩ := h
  simp only [List.cons.injEq, and_true] at hv
  refine ⟨A, c, hv, hc, fun j x hx => ?_⟩
  obtain ⟨b, off, xs, hA, hb, hr, ha⟩ := hj j x hx
  obtain ⟨AH, cH, AC, cC, AS, cS, AL, cL, rfl⟩ := acct_forms hr
  exact ⟨b, off, AH, cH, AC, cC, AS, cS, AL, cL, hA, hb, ha, hr⟩
/-- a whole account written at o -/
abbrev put11 (V : World) (b o : Nat) (a0 a1 a2 a3 a4 a5 a6 a7 a8 a9 a10 : Value) : World := (((((((((((V.setCell ⟨b, o, none⟩ a0).setCell ⟨b, o + 1, none⟩ a1).setCell ⟨b, o + 2, none⟩ a2).setCell ⟨b, o + 3, none⟩ a3).setCell ⟨b, o + 4, none⟩ a4).setCell ⟨b, o + 5, none⟩ a5).setCell ⟨b, o + 6, none⟩ a6).setCell ⟨b, o + 7, none⟩ a7).setCell ⟨b, o + 8, none⟩ a8).setCell ⟨b, o + 9, none⟩ a9).setCell ⟨b, o + 10, none⟩ a10)
set_option maxRecDepth 100000 in
theorem sets11 (V : World) (b o : Nat) (a0 a1 a2 a3 a4 a5 a6 a7 a8 a9 a10 : Value) : setsAt V b o [a0, a1, a2, a3, a4, a5, a6, a7, a8, a9, a10] = put11 V b o a0 a1 a2 a3 a4 a5 a6 a7 a8 a9 a10 := by
  simp only [setsAt, Nat.add_assoc, Nat.reduceAdd]
set_option maxRecDepth 100000 in
theorem put11_below {B : Nat} {U V : World} {b o : Nat} {a0 a1 a2 a3 a4 a5 a6 a7 a8 a9 a10 : Value} (h : Below B U V) (hb : B ≤ b) : Below B U (put11 V b o a0 a1 a2 a3 a4 a5 a6 a7 a8 a9 a10) := by
  rw [← sets11]; exact setsAt_below _ _ _ _ h hb
/-- what a law asks of a book's sizes -/
def bookSmall (N : Nat) (l : BookD) : Prop := l.length ≤ N ∧ ∀ x ∈ l, acctSmall N x
def bookBig (l : BookD) : Prop := l.length ≤ maxLen ∧ ∀ x ∈ l, acctBig x
def bookSz (l : BookD) : Nat := l.length + (l.map acctSz).sum
/-- a book as it is given back -/
def bookOne (l : BookD) (w : World) (e : Ending) (w' : World) : Prop := ∃ v, e = .returned (.agg #[v]) ∧ AcctsR.mine w.heap.size w'.heap.size w' [v] l ∧ Below w.heap.size w w'
def bookOneI (l : BookD) (w : World) (e : Ending) (w' : World) : Prop := ∃ v, e = .returned (.agg #[v]) ∧ AcctsIv.I w.heap.size w'.heap.size w' [v] l ∧ Below w.heap.size w w'
set_option maxRecDepth 100000 in
theorem bookOneI.one {l : BookD} {w : World} {e : Ending} {w' : World} (h : bookOneI l w e w') : bookOne l w e w' := by
  obtain ⟨v, he, hm, hb⟩ := h
  exact ⟨v, he, AcctsIv.mine hm, hb⟩
end Go.Proofs.Ythnimmagaocipaa
set_option linter.unusedVariables false
namespace Go.Proofs.Ythnimmagaocipaa
open Go.ChangeShapes Go.WideShapes Go.ChangeAt Go.RowKit Go.Deep

set_option maxRecDepth 100000 in
theorem open_book {H : Type} {enc : TypeId × Value → H} {W : World} {base : Nat} {v : Value} {d : DataW H} {p : List MemPlace} (hval : Value.okWide Try.prog W .any base 24 v) (h : DataW.Trod enc Try.prog W 0 (fun _ => true) true 24 v d p) :
    ∃ (l : BookD) (vb : Value), v = .agg #[vb] ∧ AcctsR.rd W.heap.size W [vb] l ∧ bookBig l := by
  obtain ⟨cs, rfl, hsz⟩ := okWide_struct Try.underlying24 hval
  obtain ⟨fuel, hf⟩ := h
  have hL := opens_slice (by decide) Try.underlying49 (by kernel_rfl) (opens_hold (enc := enc) (W := W))
  have hS := opens_slice (by decide) Try.underlying51 (by kernel_rfl) (opens_slot (enc := enc) (W := W))
  have hI0 : Opens enc Try.prog W (Rep.int .i64) 3 _ := opens_int Try.underlying3
  have hI : Opens enc Try.prog W IntsR 36 _ := opens_slice (by decide) Try.underlying36 (by kernel_rfl) hI0
  have hR : Opens enc Try.prog W RingR 50 _ := opens_struct Try.underlying50 (by kernel_rfl) (opensF_cons hI0 rfl (by kernel_rfl) (opensF_cons hI0 rfl (by kernel_rfl) (opensF_cons hI rfl (by kernel_rfl) (opensF_one hI rfl (by kernel_rfl)))))
  have hA : Opens enc Try.prog W AcctR 53 _ := opens_struct Try.underlying53 (by kernel_rfl) (opensF_cons (opens_str Try.underlying9) rfl (by kernel_rfl) (opensF_cons (opens_int Try.underlying3) rfl (by kernel_rfl) (opensF_cons (opens_int Try.underlying3) rfl (by kernel_rfl) (opensF_cons (opens_int Try.underlying3) rfl (by kernel_rfl) (opensF_cons (opens_int Try.underlying3) rfl (by kernel_rfl) (opensF_cons hL rfl (by kernel_rfl) (opensF_cons hR rfl (by kernel_rfl) (opensF_one hS rfl (by kernel_rfl)))))))))
  have hB : Opens enc Try.prog W AcctsR 22 _ := opens_slice (by decide) Try.underlying22 (by kernel_rfl) hA
  have hK : Opens enc Try.prog W AcctsR 24 _ := opens_struct Try.underlying24 (by kernel_rfl) (opensF_one hB rfl (by kernel_rfl))
  obtain ⟨l, hr, hl, hx⟩ := hK fuel _ _ hf
  obtain ⟨A, c, hcs, hh⟩ := hr
  refine ⟨l, .slice A l.length c, ?_, ⟨A, c, rfl, hh⟩, hl, fun x hxl => ?_⟩
  · have hcs' : cs.toList = [.slice A l.length c] := hcs
    have : cs = #[.slice A l.length c] := by rw [← hcs']
    rw [this]
  · obtain ⟨h1, h2, h3, h4, h5, ⟨h6, h7⟩, ⟨h8, h9, ⟨h10, h11⟩, h12, h13⟩, h14, h15⟩ := hx x hxl
    exact ⟨h1, h6, fun x hx => (h7 x hx).1, h10, h12, h14, fun x hx => ⟨(h15 x hx).1, (h15 x hx).2.1, (h15 x hx).2.2.1⟩⟩
end Go.Proofs.Ythnimmagaocipaa
set_option linter.unusedVariables false
namespace Go.Proofs.Ythnimmagaocipaa
open Go.ChangeShapes Go.WideShapes Go.ChangeAt Go.RowKit

end Go.Proofs.Ythnimmagaocipaa
set_option linter.unusedVariables false
namespace Go.Proofs.Ythnimmagaocipaa
open Go.ChangeShapes Go.WideShapes Go.ChangeAt Go.RowKit

/-- a row of structs of the call's own, from block B on; it may be appended to -/
def owE {α : Type} (T : TypeId) (k : Nat) (enc : α → List Value) (B : Nat) (w : World) (v : Value) (l : List α) : Prop := w.ownsRow B T k v l.length (l.flatMap enc)
section
variable {α : Type} {T : TypeId} {k B B' : Nat} {enc : α → List Value} {w w' : World} {v : Value} {l : List α}
set_option maxRecDepth 100000 in
theorem owE.form (h : owE T k enc B w v l) : ∃ A c, v = .slice A l.length c ∧ l.length ≤ c := by
  rcases h.2 with ⟨rfl, h0⟩ | ⟨g, cap, cur, rfl, hB, hg, h1, _⟩
  · exact ⟨none, 0, by rw [h0], by omega⟩
  · exact ⟨_, cap, rfl, h1⟩
set_option maxRecDepth 100000 in
theorem owE.lt (h : owE T k enc B w v l) : ∀ g, v.ownBlock = some g → B ≤ g ∧ g < w.heap.size := World.ownsRow.lt h
set_option maxRecDepth 100000 in
theorem owE.keep (h : owE T k enc B w v l) (hk : ∀ g, v.ownBlock = some g → w'.heap[g]? = w.heap[g]?) : owE T k enc B w' v l := by
  refine ⟨h.1, ?_⟩
  rcases h.2 with hn | ⟨g, cap, cur, rfl, hB, hg, rest⟩
  · exact .inl hn
  · exact .inr ⟨g, cap, cur, rfl, hB, (hk g rfl).trans hg, rest⟩
set_option maxRecDepth 100000 in
theorem owE.below {C : Nat} (h : owE T k enc B w v l) (hb : Below C w w') (hC : w.heap.size ≤ C) : owE T k enc B w' v l := h.keep fun g hg => hb.block g (by have := (h.lt g hg).2; omega)
set_option maxRecDepth 100000 in
theorem owE.alloc (h : owE T k enc B w v l) (o : Obj) : owE T k enc B (w.alloc o) v l := World.ownsRow.alloc h o
set_option maxRecDepth 100000 in
theorem owE.set (h : owE T k enc B w v l) {b : Nat} (hb : v.ownBlock ≠ some b) (o : Nat) (x : Value) : owE T k enc B (w.setCell ⟨b, o, none⟩ x) v l := h.keep fun g hg => Below.heap_setCell _ _ _ _ (show g ≠ b from fun e => hb (by rw [hg, e]))
set_option maxRecDepth 100000 in
theorem owE.mono (h : owE T k enc B w v l) (hB : B' ≤ B) : owE T k enc B' w v l := World.ownsRow.mono h hB
set_option maxRecDepth 100000 in
theorem flat_at (hk : ∀ x, (enc x).length = k) : ∀ (l : List α) (j : Nat) (x : α), l[j]? = some x → ∀ t u, (enc x)[t]? = some u → (l.flatMap enc)[j * k + t]? = some u := by
  intro l
  induction l with
  | nil => intro j x h; simp at h
  | cons y l ih =>
    intro j x h t u hu
    rw [List.flatMap_cons]
    cases j with
    | zero =>
      simp only [List.getElem?_cons_zero, Option.some.injEq] at h
      subst h
      rw [Nat.zero_mul, Nat.zero_add, List.getElem?_append_left (List.getElem?_eq_some_iff.1 hu).1]
      exact hu
    | succ j =>
      have := ih j x (by simpa using h) t u hu
      rw [List.getElem?_append_right (by rw [hk, Nat.add_mul]; omega), hk, Nat.add_mul]
      rwa [show j * k + 1 * k + t - k = j * k + t by omega]
set_option maxRecDepth 100000 in
/-- the row's elements lie in one block that may be written -/
theorem owE.filled (h : owE T k enc B w v l) (hk : ∀ x, (enc x).length = k) (d : α) : (l = [] ∧ ∃ A c, v = .slice A 0 c) ∨ ∃ b c, v = .slice (some ⟨b, 0, none⟩) l.length c ∧ l.length ≤ c ∧ B ≤ b ∧ b < w.heap.size ∧ Proofs.Ythnimmagaocipaa.filled w b 0 k l.length l.length fun j => enc (l.getD j d) := by
  have hlen := h.1
  rcases h.2 with ⟨rfl, h0⟩ | ⟨g, cap, cur, rfl, hB, hg, h1, h2, h3, h4⟩
  · exact .inl ⟨List.eq_nil_of_length_eq_zero h0, none, 0, rfl⟩
  · refine .inr ⟨g, cap, rfl, h1, hB, (Array.getElem?_eq_some_iff.1 hg).1, ?_⟩
    have hh : w.ownsRow B T k (.slice (some ⟨g, 0, none⟩) l.length cap) l.length (l.flatMap enc) := h
    refine ⟨fun t ht => ?_, fun j hj t u hu => ?_⟩
    · rw [Nat.zero_add]
      refine ⟨?_, hh.frozenAt t⟩
      rw [hh.cellAt t ht]
      exact ⟨_, List.getElem?_eq_getElem (by rw [hlen]; exact ht)⟩
    · have hx : l[j]? = some l[j] := List.getElem?_eq_getElem hj
      have hd : l.getD j d = l[j] := by rw [List.getD_eq_getElem?_getD, hx]; rfl
      simp only [hd] at hu
      have htk : t < k := by rw [← hk l[j]]; exact (List.getElem?_eq_some_iff.1 hu).1
      have hjk := mul_step (k := k) hj
      rw [Nat.zero_add, hh.cellAt (j * k + t) (by omega)]
      exact flat_at hk l j _ hx t u hu
end
set_option maxRecDepth 100000 in
theorem ow.from {T : TypeId} {K : IntKind} {B : Nat} {w : World} {v : Value} {L : List Int} (h : ow T K B w v L) : ∀ g, v.ownBlock = some g → B ≤ g := fun g hg => (World.ownsRow.lt h g hg).1
set_option maxRecDepth 100000 in
theorem rd.at {K : IntKind} {hi : Nat} {w : World} {A : Option Addr} {n c : Nat} {l : List Int} (h : rd K hi w (.slice A n c) l) {j : Nat} {x : Int} (hx : l[j]? = some x) : ∃ b off : Nat, A = some ⟨b, off, none⟩ ∧ b < hi ∧ w.cell? ⟨b, off + j, none⟩ = some (.int K x) := by
  obtain ⟨A', c', hv, hc, hj⟩ := h
  obtain ⟨b, off, e, hb, hcell⟩ := hj j (List.getElem?_eq_some_iff.1 hx).1
  simp only [Value.slice.injEq] at hv
  rw [List.getD_eq_getElem?_getD, hx] at hcell
  exact ⟨b, off, by rw [hv.1]; exact e, hb, hcell⟩
/-- numbers as such rows -/
def iCells (z : Int) : List Value := [.int .i64 z]
set_option maxRecDepth 100000 in
theorem flat_map {α β : Type} (f : α → β) (l : List α) : (l.flatMap fun x => [f x]) = l.map f := by
  induction l with
  | nil => rfl
  | cons x l ih => rw [List.flatMap_cons, ih]; rfl
set_option maxRecDepth 100000 in
theorem owE.ints {T : TypeId} {B : Nat} {w : World} {v : Value} {l : List Int} (h : owE T 1 iCells B w v l) : ow T .i64 B w v l := by
  unfold owE at h
  rw [show l.flatMap iCells = l.map (Value.int .i64) from flat_map _ _] at h
  exact h
end Go.Proofs.Ythnimmagaocipaa
set_option linter.unusedVariables false
namespace Go.Proofs.Ythnimmagaocipaa
open Go.ChangeShapes Go.WideShapes Go.ChangeAt Go.RowKit

set_option maxRecDepth 100000 in
theorem bk.cells3 {w : World} {g : Nat} {t : TypeId} {a b c : Value} (h : bk w g t [a, b, c]) : w.cell? ⟨g, 0, none⟩ = some a ∧ w.cell? ⟨g, 1, none⟩ = some b ∧ w.cell? ⟨g, 2, none⟩ = some c := ⟨h.cell 0, h.cell 1, h.cell 2⟩
set_option maxRecDepth 100000 in
theorem str_eq_list {a b : ByteArray} : a.toList = b.toList ↔ a = b := by
  constructor
  · intro h
    apply ByteArray.ext
    apply Array.toList_inj.1
    rwa [ByteArray.toList_eq, ByteArray.toList_eq] at h
  · rintro rfl; rfl
end Go.Proofs.Ythnimmagaocipaa
set_option linter.unusedVariables false
namespace Go.Proofs.Ythnimmagaocipaa
open Go.ChangeShapes Go.WideShapes Go.ChangeAt Go.RowKit

end Go.Proofs.Ythnimmagaocipaa
set_option linter.unusedVariables false
namespace Go.Proofs.Ythnimmagaocipaa
open Go.ChangeShapes Go.WideShapes Go.ChangeAt Go.RowKit

section
variable {P : Program} (w : World)
end
end Go.Proofs.Ythnimmagaocipaa
set_option linter.unusedVariables false
namespace Go.Proofs.Ythnimmagaocipaa
open Go.ChangeShapes Go.WideShapes Go.ChangeAt Go.RowKit

end Go.Proofs.Ythnimmagaocipaa
set_option linter.unusedVariables false
namespace Go.Proofs.Ythnimmagaocipaa
open Go.ChangeShapes Go.WideShapes Go.ChangeAt Go.RowKit

end Go.Proofs.Ythnimmagaocipaa
set_option linter.unusedVariables false
namespace Go.Proofs.Ythnimmagaocipaa
open Go.ChangeShapes Go.WideShapes Go.ChangeAt Go.RowKit

/-- the first with this trace and this type: its reply -/
def isSlot (t m : ByteArray) (x : SlotD) : Bool := decide (x.1 = t) && decide (x.2.1 = m)
end Go.Proofs.Ythnimmagaocipaa
set_option linter.unusedVariables false
namespace Go.Proofs.Ythnimmagaocipaa
open Go.ChangeShapes Go.WideShapes Go.ChangeAt Go.RowKit

/-- a slot with the slice that its reply lies in -/
abbrev SlotV := SlotD × (Option Addr × Nat)
def sv (x : SlotV) : Value := .slice x.2.1 x.1.2.2.length x.2.2
def sCells (x : SlotV) : List Value := [.string x.1.1, .string x.1.2.1, .slice x.2.1 x.1.2.2.length x.2.2]
/-- the replies' memory: one after the other, none of it the row's -/
structure replies (w : World) (row : Option Nat) (B : Nat) (ps : List SlotV) (p q : Nat → Nat) : Prop where
  own : ∀ j x, ps[j]? = some x → nums .u8 (p j) (q j) w (sv x) x.1.2.2
  ord : ∀ i j, i < j → j < ps.length → q i ≤ p j
  in_ : ∀ j, j < ps.length → B ≤ p j ∧ q j ≤ w.heap.size
  row : ∀ j, j < ps.length → ∀ g, row = some g → g < p j ∨ q j ≤ g
set_option maxRecDepth 100000 in
theorem replies.nil (w : World) (row : Option Nat) (B : Nat) : replies w row B [] (fun _ => 0) (fun _ => 0) := ⟨fun j x h => by simp at h, fun i j _ h => by simp at h, fun j h => by simp at h, fun j h => by simp at h⟩
set_option maxRecDepth 100000 in
theorem replies.below {w w' : World} {row : Option Nat} {B : Nat} {ps : List SlotV} {p q : Nat → Nat} (h : replies w row B ps p q) (hb : Below w.heap.size w w') : replies w' row B ps p q :=
  ⟨fun j x hx => (h.own j x hx).below hb (h.in_ j (List.getElem?_eq_some_iff.1 hx).1).2, h.ord, fun j hj => ⟨(h.in_ j hj).1, Nat.le_trans (h.in_ j hj).2 hb.size⟩, h.row⟩
set_option maxRecDepth 100000 in
/-- such a row is slots of one's own -/
theorem replies.slots {w : World} {T : TypeId} {B : Nat} {v : Value} {ps : List SlotV} {p q : Nat → Nat} (ho : owE T 3 sCells B w v ps) (h : replies w v.ownBlock B ps p q) : SlotsR.mine B w.heap.size w [v] (ps.map (·.1)) := by
  have hl : (ps.map (·.1)).length = ps.length := List.length_map ..
  rcases ho.filled (fun _ => rfl) ((⟨#[]⟩, ⟨#[]⟩, []), (none, 0)) with ⟨rfl, A, c, rfl⟩ | ⟨b, c, rfl, hc, h1, h2, hf⟩
  · exact ⟨[], ⟨A, c, rfl, Nat.zero_le _, .inl ⟨rfl, rfl⟩⟩, List.nodup_nil, by simp⟩
  · cases hps : ps with
    | nil => exact ⟨[], ⟨_, c, rfl, Nat.zero_le _, .inl ⟨rfl, rfl⟩⟩, List.nodup_nil, by simp⟩
    | cons y ys =>
      rw [← hps]
      have hne : 0 < ps.length := by rw [hps]; simp
      have hob : (Value.slice (some ⟨b, 0, none⟩) ps.length c).ownBlock = some b := rfl
      refine rows_mine2 (R := SlotR) (p := p) (q := q) hl.symm hc h1 h2 h.ord (fun j hj => h.row j hj b hob) (fun j hj => h.in_ j hj) hf fun j x hx => ?_
      rw [List.getElem?_map] at hx
      obtain ⟨z, hz, rfl⟩ := Option.map_eq_some_iff.1 hx
      have hg : ps.getD j ((⟨#[]⟩, ⟨#[]⟩, []), (none, 0)) = z := by rw [List.getD_eq_getElem?_getD, hz]; rfl
      rw [hg]
      exact slot_mine_of (h.own j z hz)
end Go.Proofs.Ythnimmagaocipaa
set_option linter.unusedVariables false
namespace Go.Proofs.Ythnimmagaocipaa
open Go.ChangeShapes Go.WideShapes Go.ChangeAt Go.RowKit

set_option maxRecDepth 100000 in
theorem nums_own {K : IntKind} {lo hi : Nat} {w : World} {v : Value} {l : List Int} (h : nums K lo hi w v l) : (Rep.int K).slice.own w [v] l (Proofs.Ythnimmagaocipaa.blk v).toList := by
  obtain ⟨A, c, rfl, hc, hj⟩ := h
  cases l with
  | nil => exact ⟨A, c, rfl, hc, .inl ⟨rfl, by cases A <;> rfl⟩⟩
  | cons y l =>
    obtain ⟨b, off, rfl, h1, h2, -, -⟩ := hj 0 (by simp)
    have hfl : List.flatten ((y :: l).map fun _ => ([] : List Nat)) = [] := by simp
    refine ⟨_, c, rfl, hc, .inr ⟨b, off, (y :: l).map fun _ => [], rfl, by rw [hfl]; rfl, by simp, fun j x G hx hG => ?_⟩⟩
    have hjl := (List.getElem?_eq_some_iff.1 hx).1
    have hG' : G = [] := by rw [List.getElem?_map, hx] at hG; simpa using hG.symm
    subst hG'
    obtain ⟨b', off', e, -, -, h3, h4⟩ := hj j hjl
    simp only [Option.some.injEq, Addr.mk.injEq, and_true] at e
    obtain ⟨rfl, rfl⟩ := e
    rw [List.getD_eq_getElem?_getD, hx] at h3
    have hk : off + j * (Rep.int K).k = off + j := by show off + j * 1 = _; rw [Nat.mul_one]
    refine ⟨[.int K x], ⟨rfl, rfl⟩, atL_one.2 (by rw [hk]; exact h3), fun t ht => ?_⟩
    have ht0 : t = 0 := by have : t < 1 := ht; omega
    subst ht0
    rw [hk]; exact h4
set_option maxRecDepth 100000 in
theorem slot_own_of {lo hi : Nat} {w : World} {x : SlotV} (h : nums .u8 lo hi w (sv x) x.1.2.2) : SlotR.own w (sCells x) x.1 (Proofs.Ythnimmagaocipaa.blk (sv x)).toList :=
  ⟨[_], [_, _], [], _, rfl, rfl, ⟨rfl, rfl⟩, [_], [_], [], _, rfl, rfl, ⟨rfl, rfl⟩, nums_own h⟩
/-- slots of one's own: the row's block, and each reply in a block of its own -/
structure SlotsM (lo hi : Nat) (w : World) (b off : Nat) (ps : List SlotV) : Prop where
  bnd : lo ≤ b ∧ b < hi
  cells : ∀ (j : Nat) (x : SlotV), ps[j]? = some x → atL w b (off + j * 3) (sCells x)
  free : ∀ j t, j < ps.length → t < 3 → w.frozen? ⟨b, off + j * 3 + t, none⟩ = false
  own : ∀ (j : Nat) (x : SlotV), ps[j]? = some x → nums .u8 lo hi w (sv x) x.1.2.2
  row : ∀ (j : Nat) (x : SlotV), ps[j]? = some x → Proofs.Ythnimmagaocipaa.blk (sv x) ≠ some b
  sep : ∀ (i j : Nat) (x y : SlotV), i ≠ j → ps[i]? = some x → ps[j]? = some y → ∀ g, Proofs.Ythnimmagaocipaa.blk (sv x) = some g → Proofs.Ythnimmagaocipaa.blk (sv y) ≠ some g
set_option maxRecDepth 100000 in
theorem SlotsM.mine {lo hi b off c : Nat} {w : World} {ps : List SlotV} (h : SlotsM lo hi w b off ps) (hc : ps.length ≤ c) : SlotsR.mine lo hi w [.slice (some ⟨b, off, none⟩) ps.length c] (ps.map (·.1)) := by
  have hmem : ∀ g ∈ List.flatten (ps.map fun x => (Proofs.Ythnimmagaocipaa.blk (sv x)).toList), ∃ (j : Nat) (x : SlotV), ps[j]? = some x ∧ Proofs.Ythnimmagaocipaa.blk (sv x) = some g := fun g hg => by
    obtain ⟨G, hG, hgG⟩ := List.mem_flatten.1 hg
    obtain ⟨x, hx, rfl⟩ := List.mem_map.1 hG
    obtain ⟨j, hj⟩ := List.mem_iff_getElem?.1 hx
    exact ⟨j, x, hj, by simpa using hgG⟩
  refine ⟨b :: List.flatten (ps.map fun x => (Proofs.Ythnimmagaocipaa.blk (sv x)).toList), ⟨some ⟨b, off, none⟩, c, by rw [List.length_map], by rw [List.length_map]; exact hc, .inr ⟨b, off, _, rfl, rfl, by rw [List.length_map, List.length_map], fun j x G hx hG => ?_⟩⟩, ?_, ?_⟩
  · rw [List.getElem?_map] at hx hG
    obtain ⟨y, hy, rfl⟩ := Option.map_eq_some_iff.1 hx
    rw [hy] at hG
    cases hG
    exact ⟨sCells y, slot_own_of (h.own j y hy), h.cells j y hy, fun t ht => h.free j t (List.getElem?_eq_some_iff.1 hy).1 ht⟩
  · rw [List.nodup_cons]
    refine ⟨fun hb => ?_, ?_⟩
    · obtain ⟨j, x, hx, e⟩ := hmem b hb
      exact h.row j x hx e
    · rw [List.Nodup, List.pairwise_flatten]
      refine ⟨fun G hG => ?_, ?_⟩
      · obtain ⟨x, -, rfl⟩ := List.mem_map.1 hG
        cases Proofs.Ythnimmagaocipaa.blk (sv x) <;> simp
      · rw [List.pairwise_map, List.pairwise_iff_getElem]
        intro i j hi' hj hij g h1 g' h2 e
        subst e
        exact h.sep i j _ _ (by omega) (List.getElem?_eq_getElem hi') (List.getElem?_eq_getElem hj) g (by simpa using h1) (by simpa using h2)
  · intro g hg
    rcases List.mem_cons.1 hg with rfl | hg
    · exact h.bnd
    · obtain ⟨j, x, hx, e⟩ := hmem g hg
      exact (h.own j x hx).blk g e
set_option maxRecDepth 100000 in
/-- one element made anew -/
theorem SlotsM.put {lo hi b off i : Nat} {w w' : World} {ps : List SlotV} {x y : SlotV} (h : SlotsM lo hi w b off ps) (hx : ps[i]? = some x) (hs : sv y = sv x) (hc : atL w' b (off + i * 3) (sCells y)) (hco : ∀ (j : Nat) (z : SlotV), j ≠ i → ps[j]? = some z → atL w' b (off + j * 3) (sCells z))
    (hf : ∀ t, w'.frozen? ⟨b, t, none⟩ = w.frozen? ⟨b, t, none⟩) (ho : nums .u8 lo hi w' (sv y) y.1.2.2) (hoo : ∀ (j : Nat) (z : SlotV), j ≠ i → ps[j]? = some z → nums .u8 lo hi w' (sv z) z.1.2.2) : SlotsM lo hi w' b off (ps.set i y) := by
  have hi' := (List.getElem?_eq_some_iff.1 hx).1
  have hget : ∀ (j : Nat) (z : SlotV), (ps.set i y)[j]? = some z → (j = i ∧ z = y) ∨ (j ≠ i ∧ ps[j]? = some z) := fun j z hz => by
    by_cases e : i = j
    · subst e
      rw [List.getElem?_set_self hi'] at hz
      exact .inl ⟨rfl, (Option.some.inj hz).symm⟩
    · rw [List.getElem?_set_ne e] at hz
      exact .inr ⟨fun e' => e e'.symm, hz⟩
  have hsv : ∀ (j : Nat) (z : SlotV), (ps.set i y)[j]? = some z → ∃ z', ps[j]? = some z' ∧ sv z = sv z' := fun j z hz => by
    rcases hget j z hz with ⟨rfl, rfl⟩ | ⟨-, h1⟩
    · exact ⟨x, hx, hs⟩
    · exact ⟨z, h1, rfl⟩
  refine ⟨h.bnd, fun j z hz => ?_, fun j t hj ht => ?_, fun j z hz => ?_, fun j z hz => ?_, fun j k z z' hjk hz hz' g => ?_⟩
  · rcases hget j z hz with ⟨rfl, rfl⟩ | ⟨h0, h1⟩
    · exact hc
    · exact hco j z h0 h1
  · rw [List.length_set] at hj
    rw [hf]; exact h.free j t hj ht
  · rcases hget j z hz with ⟨rfl, rfl⟩ | ⟨h0, h1⟩
    · exact ho
    · exact hoo j z h0 h1
  · obtain ⟨q, h1, h2⟩ := hsv j z hz
    rw [h2]; exact h.row j q h1
  · obtain ⟨q, h1, h2⟩ := hsv j z hz
    obtain ⟨q', h3, h4⟩ := hsv k z' hz'
    rw [h2, h4]; exact h.sep j k q q' hjk h1 h3 g
set_option maxRecDepth 100000 in
theorem SlotsM.below {lo hi b off B : Nat} {w w' : World} {ps : List SlotV} (h : SlotsM lo hi w b off ps) (hb : Below B w w') (hB : hi ≤ B) : SlotsM lo hi w' b off ps := by
  have hk : w'.heap[b]? = w.heap[b]? := hb.block b (by have := h.bnd; omega)
  exact ⟨h.bnd, fun j x hx => (h.cells j x hx).keep hk, fun j t hj ht => (frozen_keep hk).trans (h.free j t hj ht), fun j x hx => (h.own j x hx).below hb hB, h.row, h.sep⟩
set_option maxRecDepth 100000 in
theorem setL_cell {w : World} {b o t : Nat} {us : List Value} (h : atL w b o us) (ht : t < us.length) (u : Value) : atL (w.setCell ⟨b, o + t, none⟩ u) b o (us.set t u) := fun s v hs => by
  by_cases e : t = s
  · subst e
    rw [List.getElem?_set_self ht] at hs
    cases hs
    exact World.cell?_setCell_same w ⟨b, o + t, none⟩ u (h t _ (List.getElem?_eq_getElem ht))
  · rw [List.getElem?_set_ne e] at hs
    rw [World.cell?_setCell_other _ _ _ _ (fun he => e (by have := congrArg Addr.off he; simp at this; omega))]
    exact h s v hs
set_option maxRecDepth 100000 in
/-- a cell of element i stored anew, its reply as it was -/
theorem SlotsM.setCell {lo hi b off i t : Nat} {w : World} {ps : List SlotV} {x y : SlotV} {u : Value} (h : SlotsM lo hi w b off ps) (hx : ps[i]? = some x) (hs : sv y = sv x) (hr : y.1.2.2 = x.1.2.2) (ht : t < 3) (hy : sCells y = (sCells x).set t u) : SlotsM lo hi (w.setCell ⟨b, off + i * 3 + t, none⟩ u) b off (ps.set i y) := by
  refine h.put hx hs (by rw [hy]; exact setL_cell (h.cells i x hx) ht u) (fun j z hj hz => (h.cells j z hz).set_far (by show off + i * 3 + t < off + j * 3 ∨ off + j * 3 + 3 ≤ off + i * 3 + t; omega) u) (fun t => by simp) ?_ (fun j z hj hz => (h.own j z hz).far u (h.row j z hz))
  rw [hs, hr]
  exact (h.own i x hx).far u (h.row i x hx)
set_option maxRecDepth 100000 in
/-- its reply made anew in its own block -/
theorem SlotsM.reply {lo hi b off i : Nat} {w w' : World} {ps : List SlotV} {x : SlotV} {m : List Int} (h : SlotsM lo hi w b off ps) (hx : ps[i]? = some x) (hm : m.length = x.1.2.2.length) (hg : w.grownBy w' (Proofs.Ythnimmagaocipaa.blk (sv x))) (hh : hi ≤ w.heap.size) (hn : nums .u8 lo hi w' (sv x) m) : SlotsM lo hi w' b off (ps.set i ((x.1.1, x.1.2.1, m), x.2)) := by
  have hk : w'.heap[b]? = w.heap[b]? := hg.block b (by have := h.bnd; omega) (fun e => h.row i x hx e.symm)
  have hs : sv (((x.1.1, x.1.2.1, m), x.2) : SlotV) = sv x := by unfold sv; simp only [hm]
  refine h.put hx hs ?_ (fun j z hj hz => (h.cells j z hz).keep hk) (fun t => frozen_keep hk) (by rw [hs]; exact hn) (fun j z hj hz => (h.own j z hz).apart hg hh fun g h1 h2 => h.sep j i z x hj hz hx g h1 h2)
  have hc : sCells (((x.1.1, x.1.2.1, m), x.2) : SlotV) = sCells x := by unfold sCells; simp only [hm]
  rw [hc]
  exact (h.cells i x hx).keep hk
end Go.Proofs.Ythnimmagaocipaa
set_option linter.unusedVariables false
namespace Go.Proofs.Ythnimmagaocipaa
open Go.ChangeShapes Go.WideShapes Go.ChangeAt Go.RowKit

end Go.Proofs.Ythnimmagaocipaa
set_option linter.unusedVariables false
namespace Go.Proofs.Ythnimmagaocipaa
open Go.ChangeShapes Go.WideShapes Go.ChangeAt Go.RowKit

end Go.Proofs.Ythnimmagaocipaa
set_option linter.unusedVariables false
namespace Go.Proofs.Ythnimmagaocipaa
open Go.ChangeShapes Go.WideShapes Go.ChangeAt Go.RowKit

end Go.Proofs.Ythnimmagaocipaa
set_option linter.unusedVariables false
namespace Go.Proofs.Ythnimmagaocipaa
open Go.ChangeShapes Go.WideShapes Go.ChangeAt Go.RowKit

end Go.Proofs.Ythnimmagaocipaa
set_option linter.unusedVariables false
namespace Go.Proofs.Ythnimmagaocipaa
open Go.ChangeShapes Go.WideShapes Go.ChangeAt Go.RowKit

set_option maxRecDepth 100000 in
theorem mem_sum {α : Type} (f : α → Nat) : ∀ {l : List α} {x : α}, x ∈ l → f x ≤ (l.map f).sum
  | [], x, h => by simp at h
  | y :: l, x, h => by
    rw [List.map_cons, List.sum_cons]
    rcases List.mem_cons.1 h with rfl | h
    · omega
    · have := mem_sum f h; omega
set_option maxRecDepth 100000 in
theorem sz_len {l : List SlotD} {N : Nat} (h : slotsSz l ≤ N) : l.length ≤ N := by unfold slotsSz at h; omega
set_option maxRecDepth 100000 in
theorem sz_reply {l : List SlotD} {N : Nat} (h : slotsSz l ≤ N) : ∀ x ∈ l, x.2.2.length ≤ N := fun x hx => by
  have h1 := mem_sum slotSz hx
  have h2 : x.2.2.length ≤ slotSz x := by unfold slotSz; omega
  unfold slotsSz at h
  omega
end Go.Proofs.Ythnimmagaocipaa
set_option linter.unusedVariables false
namespace Go.Proofs.Ythnimmagaocipaa
set_option maxRecDepth 100000 in
theorem acct_small {a : AcctD} {N : Nat} (h : acctSz a ≤ N) : acctSmall N a := by
  unfold acctSz at h
  have hs : slotsSz (aS a) ≤ N := by omega
  exact ⟨by unfold holdsSz at h; omega, by omega, by omega, sz_len hs, sz_reply hs⟩
end Go.Proofs.Ythnimmagaocipaa
set_option linter.unusedVariables false
namespace Go.Proofs.Ythnimmagaocipaa
open Go.ChangeShapes Go.WideShapes Go.ChangeAt Go.RowKit

set_option maxRecDepth 100000 in
set_option maxHeartbeats 16000000 in
theorem eqAccts_any (hi1 hi2 : Nat) (va vb : Value) (l : BookD) (w : World) (hs : bookSmall 1048576 l) (h1 : AcctsR.rd hi1 w [va] l) (h2 : AcctsR.rd hi2 w [vb] l) (hh1 : hi1 ≤ w.heap.size) (hh2 : hi2 ≤ w.heap.size) :
    Calls Try.prog 16 #[va, vb] w fun e w' => e = .returned (.bool true) ∧ Below w.heap.size w w' := by
  obtain ⟨A1, c1, rfl, -, h1⟩ := accts_rd h1
  obtain ⟨A2, c2, rfl, -, h2⟩ := accts_rd h2
  obtain ⟨hn, hs⟩ := hs
  have H1 := Lib.hid h1
  have H2 := Lib.hid h2
  have HS := Lib.hid hs
  clear h1 h2 hs
  go_enter Try.func16, Try.ntmps16
  go_wp2
  go_loopw [5] (fun iv wr => ∃ k : Nat, k ≤ l.length ∧ iv = .int .i64 k ∧ Hid (Below w.heap.size w wr) ∧ w.heap.size ≤ wr.heap.size) (fun iv _ => l.length - (intOf iv).toNat)
  case atStart => exact ⟨0, Nat.zero_le _, rfl, Lib.hid (Below.refl _ _), Nat.le_refl _⟩
  case round =>
    obtain ⟨k, hk, rfl, HB, hz⟩ := hrel
    by_cases hlt : k < l.length
    · obtain ⟨x, hx⟩ : ∃ x, l[k]? = some x := ⟨_, List.getElem?_eq_getElem hlt⟩
      obtain ⟨b1, o1, AH, cH, AC, cC, AS, cS, AL, cL, rfl, hb1, x1, r1⟩ := H1.out k x hx
      obtain ⟨b2, o2, BH, dH, BC, dC, BS, dS, BL, dL, rfl, hb2, x2, r2⟩ := H2.out k x hx
      have hxs := HS.out x (List.mem_of_getElem? hx)
      have HE := Lib.hid (fun W (hW : Below w.heap.size w W) => eqAcct_any hi1 hi2 _ _ _ _ _ _ _ _ x W hxs (Rep.below (R := AcctR) r1 hW hh1) (Rep.below (R := AcctR) r2 hW hh2) (Nat.le_trans hh1 hW.size) (Nat.le_trans hh2 hW.size))
      clear r1 r2
      have HX1 := Lib.hid (fun W (hW : Below w.heap.size w W) => (x1.below hW (show b1 < w.heap.size by omega)).eleven)
      have HX2 := Lib.hid (fun W (hW : Below w.heap.size w W) => (x2.below hW (show b2 < w.heap.size by omega)).eleven)
      clear x1 x2
      have g1 : (k : Int) < (l.length : Int) := by omega
      have g2 : 0 ≤ (k : Int) := by omega
      clear hx
      obtain ⟨p0, p1, p2, p3, p4, p5, p6, p7, p8, p9, p10⟩ := HX1.out _ HB.out
      obtain ⟨q0, q1, q2, q3, q4, q5, q6, q7, q8, q9, q10⟩ := HX2.out _ HB.out
      have hD : Below w.heap.size w wr.drew := HB.out.drew
      have hzd : w.heap.size ≤ wr.drew.heap.size := hz
      go_wp2
      go_region_held3 (fun w' => Below w.heap.size w w' ∧ (w'.cell? ⟨b1, o1 + k * 11, none⟩ = some (.string (aId x)) ∧ w'.cell? ⟨b1, o1 + k * 11 + 1, none⟩ = some (.int .i64 (aLim x)) ∧ w'.cell? ⟨b1, o1 + k * 11 + 2, none⟩ = some (.int .i64 (aPos x)) ∧ w'.cell? ⟨b1, o1 + k * 11 + 3, none⟩ = some (.int .i64 (aMost x)) ∧ w'.cell? ⟨b1, o1 + k * 11 + 4, none⟩ = some (.int .i64 (aSum x)) ∧ w'.cell? ⟨b1, o1 + k * 11 + 5, none⟩ = some (.slice AH (aH x).length cH) ∧ w'.cell? ⟨b1, o1 + k * 11 + 6, none⟩ = some (.int .i64 (aR x).1) ∧ w'.cell? ⟨b1, o1 + k * 11 + 7, none⟩ = some (.int .i64 (aR x).2.1) ∧ w'.cell? ⟨b1, o1 + k * 11 + 8, none⟩ = some (.slice AC (aR x).2.2.1.length cC) ∧ w'.cell? ⟨b1, o1 + k * 11 + 9, none⟩ = some (.slice AS (aR x).2.2.2.length cS) ∧ w'.cell? ⟨b1, o1 + k * 11 + 10, none⟩ = some (.slice AL (aS x).length cL)) ∧ (w'.cell? ⟨b2, o2 + k * 11, none⟩ = some (.string (aId x)) ∧ w'.cell? ⟨b2, o2 + k * 11 + 1, none⟩ = some (.int .i64 (aLim x)) ∧ w'.cell? ⟨b2, o2 + k * 11 + 2, none⟩ = some (.int .i64 (aPos x)) ∧ w'.cell? ⟨b2, o2 + k * 11 + 3, none⟩ = some (.int .i64 (aMost x)) ∧ w'.cell? ⟨b2, o2 + k * 11 + 4, none⟩ = some (.int .i64 (aSum x)) ∧ w'.cell? ⟨b2, o2 + k * 11 + 5, none⟩ = some (.slice BH (aH x).length dH) ∧ w'.cell? ⟨b2, o2 + k * 11 + 6, none⟩ = some (.int .i64 (aR x).1) ∧ w'.cell? ⟨b2, o2 + k * 11 + 7, none⟩ = some (.int .i64 (aR x).2.1) ∧ w'.cell? ⟨b2, o2 + k * 11 + 8, none⟩ = some (.slice BC (aR x).2.2.1.length dC) ∧ w'.cell? ⟨b2, o2 + k * 11 + 9, none⟩ = some (.slice BS (aR x).2.2.2.length dS) ∧ w'.cell? ⟨b2, o2 + k * 11 + 10, none⟩ = some (.slice BL (aS x).length dL))) (refine ⟨by assumption, HX1.out _ (by assumption), HX2.out _ (by assumption)⟩) ((go_at_call 22; refine (HE.out _ (by assumption)).mono ?_; rintro e w2 ⟨rfl, hb⟩; have hD2 : Below w.heap.size w w2 := hD.trans (hb.mono hzd)))
      have HB2 : Hid (Below w.heap.size w w2) := Lib.hid hD2
      have hz2 := hD2.size
      clear hb hD2 hD
      go_wp2
      go_roundw
      case rel => exact ⟨k + 1, by omega, by go_num, HB2, hz2⟩
      case measure => simp [intOf] <;> omega
    · go_wp2
      go_ret
      exact ⟨rfl, HB.out⟩
set_option maxRecDepth 100000 in
set_option maxHeartbeats 1600000 in
theorem szAccts_any (hi : Nat) (v : Value) (l : BookD) (left : Int) (w : World) (hs : bookBig l) (h : AcctsR.rd hi w [v] l) (hh : hi ≤ w.heap.size) (h0 : 0 ≤ left) (h1 : left ≤ 1048576) :
    Calls Try.prog 12 #[v, .int .i64 left] w (szRes left (bookSz l) w) := by
  obtain ⟨A, c, rfl, hc, h⟩ := accts_rd h
  obtain ⟨hn, hs⟩ := hs
  have HR := Lib.hid h
  have HS := Lib.hid hs
  clear h hs
  unfold maxLen at hn
  by_cases hbig : left - (l.length : Int) < 0
  · go_enter Try.func12, Try.ntmps12
    go_wp2
    go_ret
    exact ⟨_, rfl, .inl rfl, Below.refl _ _⟩
  have hge : 0 ≤ left - (l.length : Int) := by omega
  go_enter Try.func12, Try.ntmps12
  go_wp2
  go_loopw [1, 5] (fun nv iv wr => ∃ (i : Nat) (r : Int), i ≤ l.length ∧ iv = .int .i64 i ∧ nv = .int .i64 r ∧ 0 ≤ r ∧ r ≤ 1048576 ∧ Hid (r = left - (l.length : Int) - (sumTo acctSz l i : Nat)) ∧ Hid (Below w.heap.size w wr) ∧ w.heap.size ≤ wr.heap.size) (fun _ iv _ => l.length - (intOf iv).toNat)
  case atStart => exact ⟨0, _, Nat.zero_le _, rfl, rfl, by omega, by omega, Lib.hid (by simp [sumTo]), Lib.hid (Below.refl _ _), Nat.le_refl _⟩
  case round =>
    obtain ⟨i, r, hil, rfl, rfl, hr0, hr1, HV, HB, hz⟩ := hrel
    by_cases hin : i < l.length
    · obtain ⟨x, hx⟩ : ∃ x, l[i]? = some x := ⟨_, List.getElem?_eq_getElem hin⟩
      obtain ⟨b, off, AH, cH, AC, cC, AS, cS, AL, cL, rfl, hbl, hat, hrd⟩ := HR.out i x hx
      have hxs := HS.out x (List.mem_of_getElem? hx)
      have HN := Lib.hid (sumTo_next acctSz l i x hx)
      clear hx
      have hat := hat.below HB.out (show b < w.heap.size by omega)
      obtain ⟨d0, d1, d2, d3, d4, d5, d6, d7, d8, d9, d10⟩ := hat.eleven
      have HZ := Lib.hid (szAcct_any hi _ _ _ _ x r wr hxs (Rep.below (R := AcctR) hrd HB.out hh) (by omega) hr0 hr1)
      clear hrd hat hxs
      have g1 : (i : Int) < (l.length : Int) := by omega
      have g2 : 0 ≤ (i : Int) := by omega
      go_wp2_with fail
      refine HZ.out.mono ?_
      rintro e w2 ⟨r2, rfl, hr2, hb2⟩
      have hz2 := hb2.size
      have HB2 : Hid (Below w.heap.size w w2) := Lib.hid (HB.out.trans (hb2.mono (by omega)))
      clear hb2 d0 d1 d2 d3 d4 d5 d6 d7 d8 d9 d10
      rcases hr2 with rfl | ⟨hr2, hr3⟩
      · go_wp2
        go_ret
        exact ⟨_, rfl, .inl rfl, HB2.out⟩
      · have HR2 := Lib.hid hr2
        have hr4 : r2 ≤ 1048576 := by omega
        clear hr2
        go_wp2
        go_roundw
        case rel => exact ⟨i + 1, r2, by omega, by go_num, rfl, hr3, hr4, Lib.hid (by rw [HN.out, HR2.out, HV.out]; omega), HB2, by omega⟩
        case measure => simp [intOf] <;> omega
    · obtain rfl : i = l.length := by omega
      go_wp2
      go_ret
      exact ⟨r, rfl, .inr ⟨by rw [HV.out, sumTo_all]; unfold bookSz; omega, hr0⟩, HB.out⟩
set_option maxRecDepth 100000 in
set_option maxHeartbeats 1600000 in
theorem szBook_any (hi : Nat) (v : Value) (l : BookD) (left : Int) (w : World) (hs : bookBig l) (h : AcctsR.rd hi w [v] l) (hh : hi ≤ w.heap.size) (h0 : 0 ≤ left) (h1 : left ≤ 1048576) :
    Calls Try.prog 5 #[.agg #[v], .int .i64 left] w (szRes left (bookSz l) w) := by
  obtain ⟨A, c, rfl, hc⟩ := Rep.slice_form h
  have HQ := Lib.hid (fun W (hW : Below w.heap.size w W) => szAccts_any hi _ l left W hs (Rep.below (R := AcctsR) h hW hh) (Nat.le_trans hh hW.size) h0 h1)
  have HB0 : Hid (∀ o, Below w.heap.size w (w.alloc o)) := Lib.hid fun o => (Below.refl _ _).alloc (Nat.le_refl _) _
  clear h hs
  go_enter Try.func5, Try.ntmps5
  go_wp2_with fail
  refine (HQ.out _ (HB0.out _)).mono ?_
  rintro e w2 ⟨r2, rfl, hr2, hb2⟩
  have HB2 : Hid (Below w.heap.size w w2) := Lib.hid ((HB0.out _).trans (hb2.mono (by simp)))
  clear hb2
  rcases hr2 with rfl | ⟨hr2, hr3⟩
  · go_wp2
    go_ret
    exact ⟨_, rfl, .inl rfl, HB2.out⟩
  · have HR2 := Lib.hid hr2
    clear hr2
    go_wp2
    go_ret
    exact ⟨_, rfl, .inr ⟨HR2.out, hr3⟩, HB2.out⟩
set_option maxRecDepth 100000 in
set_option maxHeartbeats 1600000 in
theorem eqBook_any (hi1 hi2 : Nat) (va vb : Value) (l : BookD) (w : World) (hs : bookSmall 1048576 l) (h1 : AcctsR.rd hi1 w [va] l) (h2 : AcctsR.rd hi2 w [vb] l) (hh1 : hi1 ≤ w.heap.size) (hh2 : hi2 ≤ w.heap.size) :
    Calls Try.prog 9 #[.agg #[va], .agg #[vb]] w fun e w' => e = .returned (.bool true) ∧ Below w.heap.size w w' := by
  obtain ⟨A, c, rfl, hc⟩ := Rep.slice_form h1
  obtain ⟨A', c', rfl, hc'⟩ := Rep.slice_form h2
  have HQ := Lib.hid (fun W (hW : Below w.heap.size w W) => eqAccts_any hi1 hi2 _ _ l W hs (Rep.below (R := AcctsR) h1 hW hh1) (Rep.below (R := AcctsR) h2 hW hh2) (Nat.le_trans hh1 hW.size) (Nat.le_trans hh2 hW.size))
  have HB0 : Hid (∀ o o', Below w.heap.size w ((w.alloc o).alloc o')) := Lib.hid fun o o' => ((Below.refl _ _).alloc (Nat.le_refl _) _).alloc (by simp) _
  clear h1 h2 hs
  go_enter Try.func9, Try.ntmps9
  go_wp2_with fail
  refine (HQ.out _ (HB0.out _ _)).mono ?_
  rintro e w2 ⟨rfl, hb2⟩
  have HB2 : Hid (Below w.heap.size w w2) := Lib.hid ((HB0.out _ _).trans (hb2.mono (by simp; omega)))
  clear hb2
  go_wp2
  go_ret
  exact ⟨rfl, HB2.out⟩
set_option maxRecDepth 100000 in
theorem book_small {l : BookD} {N : Nat} (h : bookSz l ≤ N) : bookSmall N l := by
  unfold bookSz at h
  refine ⟨by omega, fun x hx => acct_small ?_⟩
  have := le_sum acctSz hx
  omega
end Go.Proofs.Ythnimmagaocipaa
set_option linter.unusedVariables false
namespace Go.Proofs.Ythnimmagaocipaa
open Go.ChangeShapes Go.WideShapes Go.ChangeAt Go.RowKit

set_option maxRecDepth 100000 in
theorem infoAcct : (Try.prog.info? 41).map (fun i => (i.zero.map (·.cells), i.size, i.bytes)) = some (some #[.string ⟨#[]⟩, .int .i64 0, .int .i64 0, .int .i64 0, .int .i64 0, .slice none 0 0, .int .i64 0, .int .i64 0, .slice none 0 0, .slice none 0 0, .slice none 0 0], 11, 160) := by kernel_rfl
set_option maxRecDepth 100000 in
theorem AcctR_k : AcctR.k = 11 := rfl
/-- the first elements of a made row of accounts stand -/
structure bookGrow (lo : Nat) (w : World) (g n : Nat) (l : BookD) : Prop where
  row : ∃ xs p q, RowI AcctIv lo w.heap.size w g 0 xs p q ∧ xs.map (·.2) = l
  room : roomL w g 0 (n * 11)
set_option maxRecDepth 100000 in
theorem bookGrow.start {w : World} {lo g n : Nat} (h : roomL w g 0 (n * 11)) (h1 : lo ≤ g) (h2 : g < w.heap.size) : bookGrow lo w g n [] := ⟨⟨[], _, _, RowI.nil _ w 0 ⟨h1, h2⟩, rfl⟩, h⟩
set_option maxRecDepth 100000 in
theorem bookGrow.next {w w2 : World} {lo g n : Nat} {l : BookD} {x : AcctD} {vh vc vs vl : Value} (h : bookGrow lo w g n l) (hb : Below w.heap.size w w2) (hn : l.length < n) (hg : g < w.heap.size) (hI : AcctI w.heap.size w2.heap.size w2 vh vc vs vl x) :
    bookGrow lo (put11 w2 g (l.length * 11) (.string (aId x)) (.int .i64 (aLim x)) (.int .i64 (aPos x)) (.int .i64 (aMost x)) (.int .i64 (aSum x)) vh (.int .i64 (aR x).1) (.int .i64 (aR x).2.1) vc vs vl) g n (l ++ [x]) := by
  rw [← sets11]
  show bookGrow lo (setsAt w2 g (l.length * 11) (aCells x vh vc vs vl)) g n (l ++ [x])
  obtain ⟨⟨xs, p, q, hr, rfl⟩, hroom⟩ := h
  rw [List.length_map] at hn ⊢
  have hroom2 := hroom.keep (hb.block g hg)
  have hk := mul_step (k := 11) hn
  have hr2 := hroom2.sub (o' := xs.length * 11) (n' := 11) (by omega) (by omega)
  have hT := setsAt_turned (aCells x vh vc vs vl) w2 g (xs.length * 11) (Turned.refl g (g + 1) w2) (Nat.le_refl _) (by omega)
  have hsz := hT.size
  have hb2 := hb.size
  have he : Edit g (0 + xs.length * AcctR.k) AcctR.k w.heap.size w.heap.size w (setsAt w2 g (xs.length * 11) (aCells x vh vc vs vl)) := by
    rw [AcctR_k, Nat.zero_add]
    exact ((Edit.refl g (xs.length * 11) 11 w.heap.size w.heap.size w).below hb (Nat.le_refl _) hg).sets _ _ _ (Nat.le_refl _) (Nat.le_refl _)
  have ha : atL (setsAt w2 g (xs.length * 11) (aCells x vh vc vs vl)) g (0 + xs.length * AcctR.k) (aCells x vh vc vs vl) := by
    rw [AcctR_k, Nat.zero_add]
    exact setsAt_at _ _ _ _ hr2
  have hf : freeL w g (0 + xs.length * AcctR.k) AcctR.k := by
    rw [AcctR_k, Nat.zero_add]
    exact (hroom.sub (o' := xs.length * 11) (n' := 11) (by omega) (by omega)).free
  refine ⟨⟨xs ++ [(aCells x vh vc vs vl, x)], _, _, hr.push he rfl ha hf (hI := ⟨vh, vc, vs, vl, rfl, hI.turned hT (.inr (by omega)) (Nat.le_refl _)⟩) (fun i hi => .inl (hr.in_ i hi).2.1) ⟨Nat.le_trans hr.blk.1 (by omega), hsz, .inl hg⟩ (by omega) (Nat.le_refl _), by simp⟩, setsAt_room _ _ _ _ _ _ hroom2⟩
set_option maxRecDepth 100000 in
theorem bookGrow.done {w : World} {lo g n : Nat} {l : BookD} (h : bookGrow lo w g n l) (hn : n = l.length) : AcctsIv.I lo w.heap.size w [.slice (some ⟨g, 0, none⟩) n n] l := by
  obtain ⟨⟨xs, p, q, hr, rfl⟩, -⟩ := h
  rw [List.length_map] at hn
  subst hn
  exact ⟨_, _, by rw [List.length_map], by rw [List.length_map]; exact Nat.le_refl _, .inr ⟨g, 0, xs, p, q, rfl, rfl, hr⟩⟩
set_option maxRecDepth 100000 in
set_option maxHeartbeats 4000000 in
theorem toAccts_any (hi : Nat) (v : Value) (l : BookD) (w : World) (hs : bookSmall 1048576 l) (h : AcctsR.rd hi w [v] l) (hhi : hi ≤ w.heap.size) :
    Calls Try.prog 13 #[v] w fun e w' => ∃ u, e = .returned u ∧ AcctsIv.I w.heap.size w'.heap.size w' [u] l ∧ Below w.heap.size w w' := by
  obtain ⟨A, c, rfl, hc, h⟩ := accts_rd h
  have HR := Lib.hid h
  obtain ⟨hn, hs⟩ := hs
  have HS := Lib.hid hs
  clear h hs
  have hmk := make_run (P := Try.prog) 27 41 #[.string ⟨#[]⟩, .int .i64 0, .int .i64 0, .int .i64 0, .int .i64 0, .slice none 0 0, .int .i64 0, .int .i64 0, .slice none 0 0, .slice none 0 0, .slice none 0 0] 11 160 Try.underlying27 infoAcct l.length (by omega) (by omega)
  go_enter Try.func13, Try.ntmps13
  go_wp2
  go_loopw [4] (fun iv wr => ∃ (i : Nat), i ≤ l.length ∧ iv = .int .i64 i ∧ Hid (bookGrow w.heap.size wr w.heap.size l.length (l.take i)) ∧ w.heap.size < wr.heap.size ∧ Hid (Below w.heap.size w wr)) (fun iv _ => l.length - (intOf iv).toNat)
  case atStart => exact ⟨0, Nat.zero_le _, rfl, Lib.hid (bookGrow.start (room_made w _ _ _) (Nat.le_refl _) (by simp)), by simp, Lib.hid ((Below.refl _ _).alloc (Nat.le_refl _) _)⟩
  case round =>
    obtain ⟨i, hil, rfl, HF, hz, HB⟩ := hrel
    by_cases hin : i < l.length
    · obtain ⟨x, hx⟩ : ∃ x, l[i]? = some x := ⟨_, List.getElem?_eq_getElem hin⟩
      obtain ⟨b, off, AH, cH, AC, cC, AS, cS, AL, cL, rfl, hbl, hat, hrd⟩ := HR.out i x hx
      have hxs := HS.out x (List.mem_of_getElem? hx)
      have HTK : Hid (l.take (i + 1) = l.take i ++ [x]) := Lib.hid (by
        obtain ⟨h1, h2⟩ := List.getElem?_eq_some_iff.1 hx
        rw [List.take_succ_eq_append_getElem h1, h2])
      have HTL : Hid ((l.take i).length = i) := Lib.hid (by rw [List.length_take]; omega)
      clear hx
      have hat := hat.below HB.out (show b < w.heap.size by omega)
      obtain ⟨d0, d1, d2, d3, d4, d5, d6, d7, d8, d9, d10⟩ := hat.eleven
      have HT := Lib.hid (toAcctI_any hi _ _ _ _ x wr hxs (Rep.below (R := AcctR) hrd HB.out hhi) (by omega))
      clear hrd hat
      have g1 : (i : Int) < (l.length : Int) := by omega
      have g2 : 0 ≤ (i : Int) := by omega
      go_wp2_with fail
      refine HT.out.mono ?_
      rintro e w2 ⟨vh, vc, vs, vl, rfl, hI, hb2⟩
      obtain ⟨AH', cH', AC', cC', AS', cS', AL', cL', he⟩ := acct_forms hI.mine.rd
      simp only [aCells, List.cons.injEq, and_true, true_and] at he
      obtain ⟨rfl, rfl, rfl, rfl⟩ := he
      have HN0 := HF.out.next hb2 (by rw [HTL.out]; exact hin) hz hI
      rw [HTL.out, ← HTK.out] at HN0
      have HN := Lib.hid HN0
      have HR2 := Lib.hid (HF.out.room.keep (hb2.block _ hz))
      have hz2 := hb2.size
      have HB2 : Hid (Below w.heap.size w w2) := Lib.hid (HB.out.trans (hb2.mono (by omega)))
      clear hb2 hI HN0
      have hk := mul_step (k := 11) hin
      obtain ⟨⟨u0, e0⟩, f0⟩ := HR2.out (i * 11 + 0) (by omega)
      obtain ⟨⟨u1, e1⟩, f1⟩ := HR2.out (i * 11 + 1) (by omega)
      obtain ⟨⟨u2, e2⟩, f2⟩ := HR2.out (i * 11 + 2) (by omega)
      obtain ⟨⟨u3, e3⟩, f3⟩ := HR2.out (i * 11 + 3) (by omega)
      obtain ⟨⟨u4, e4⟩, f4⟩ := HR2.out (i * 11 + 4) (by omega)
      obtain ⟨⟨u5, e5⟩, f5⟩ := HR2.out (i * 11 + 5) (by omega)
      obtain ⟨⟨u6, e6⟩, f6⟩ := HR2.out (i * 11 + 6) (by omega)
      obtain ⟨⟨u7, e7⟩, f7⟩ := HR2.out (i * 11 + 7) (by omega)
      obtain ⟨⟨u8, e8⟩, f8⟩ := HR2.out (i * 11 + 8) (by omega)
      obtain ⟨⟨u9, e9⟩, f9⟩ := HR2.out (i * 11 + 9) (by omega)
      obtain ⟨⟨u10, e10⟩, f10⟩ := HR2.out (i * 11 + 10) (by omega)
      simp only [Nat.zero_add, Nat.add_zero] at e0 f0 e1 f1 e2 f2 e3 f3 e4 f4 e5 f5 e6 f6 e7 f7 e8 f8 e9 f9 e10 f10
      clear hk d0 d1 d2 d3 d4 d5 d6 d7 d8 d9 d10
      go_wp2
      go_roundw
      case rel => exact ⟨i + 1, by omega, by go_num, HN, by simp; omega, Lib.hid (put11_below HB2.out (Nat.le_refl _))⟩
      case measure => simp [intOf] <;> omega
    · obtain rfl : i = l.length := by omega
      have HF' := HF.out
      rw [List.take_length] at HF'
      have HF := Lib.hid HF'
      clear HF'
      go_wp2
      go_ret
      exact ⟨_, rfl, HF.out.done rfl, HB.out⟩
set_option maxRecDepth 100000 in
set_option maxHeartbeats 1600000 in
theorem toBook_any (hi : Nat) (v : Value) (l : BookD) (w : World) (hs : bookSmall 1048576 l) (h : AcctsR.rd hi w [v] l) (hhi : hi ≤ w.heap.size) :
    Calls Try.prog 7 #[.agg #[v]] w (bookOneI l w) := by
  obtain ⟨A, c, rfl, hc⟩ := Rep.slice_form h
  have HQ := Lib.hid (fun W (hW : Below w.heap.size w W) => toAccts_any hi _ l W hs (Rep.below (R := AcctsR) h hW hhi) (Nat.le_trans hhi hW.size))
  clear h hs
  go_enter Try.func7, Try.ntmps7
  go_wp2_with fail
  obtain ⟨W, hW⟩ : ∃ W, W = ((w.alloc (.cells #[.slice A l.length c] 24)).alloc (.cells #[.slice none 0 0] 29)).alloc (.cells #[.slice none 0 0] 29) := ⟨_, rfl⟩
  have b1 : bk W (w.heap.size + 1) 29 [.slice none 0 0] := by rw [hW]; exact (by simpa using bk.new (w.alloc _) _ _ : bk _ (w.heap.size + 1) _ _).alloc _
  have b2 : bk W (w.heap.size + 1 + 1) 29 [.slice none 0 0] := by rw [hW]; simpa using bk.new ((w.alloc _).alloc _) _ _
  have HB0 : Hid (Below w.heap.size w W) := Lib.hid (by rw [hW]; exact (((Below.refl _ _).alloc (Nat.le_refl _) _).alloc (by simp) _).alloc (by simp; omega) _)
  have hz0 : W.heap.size = w.heap.size + 3 := by rw [hW]; simp
  rw [← hW]
  clear hW
  refine (HQ.out W HB0.out).mono ?_
  rintro e w1 ⟨u, rfl, hu, hb1⟩
  obtain ⟨AU, cU, rfl, -⟩ := Rep.slice_form (AcctsIv.rd hu)
  have z1 := hb1.size
  have HU := Lib.hid hu
  have HB1 : Hid (Below w.heap.size w w1) := Lib.hid (HB0.out.trans (hb1.mono (by omega)))
  replace b1 := b1.below hb1 (by omega)
  replace b2 := b2.below hb1 (by omega)
  clear hb1 HB0 hu
  have q0 := b2.cell 0
  have f2 := b2.frozen 0
  have r0 := b1.cell 0
  have g0 := b1.frozen 0
  simp only [List.getElem?_cons_zero] at q0 r0
  clear b1 b2
  go_wp2
  refine bodyPost_ret (v := .agg #[.slice AU l.length cU]) (by simp [results, Try.results7, go_sem, r0]) rfl ?_
  have ht := ((Turned.refl (w.heap.size + 1) (w.heap.size + 3) w1).set (b := w.heap.size + 1 + 1) 0 (.slice AU l.length cU) (by omega) (by omega)).set (b := w.heap.size + 1) 0 (.slice AU l.length cU) (by omega) (by omega)
  have hsz := ht.size
  exact ⟨_, rfl, AcctsIv.mono (AcctsIv.turned HU.out ht (.inr (by omega)) (Nat.le_refl _)) (by omega) hsz, HB1.out.trans (ht.below (by omega) (by omega))⟩
end Go.Proofs.Ythnimmagaocipaa
