/- Free of the program; no conditions but the library's handle. -/
import Derived.Test.YtnmijppppcgobaaGreatDoorMrg8
set_option linter.unusedVariables false
namespace Go.Proofs.YtnmijppppcgobaaGreatDoor
open Go.ChangeShapes Go.WideShapes Go.ChangeAt Go.RowKit

set_option maxRecDepth 100000 in
set_option maxHeartbeats 16000000 in
theorem implFree_any (hi : Nat) (vh vc vs vl : Value) (a : AcctD) (s : ByteArray) (now : Int) (w : World) (hg : Handle w) (hz : acctSmall 1048576 a) (hbig : acctBig a) (h : AcctR.rd hi w (aCells a vh vc vs vl) a) (hh : hi ≤ w.heap.size) (hsz : s.size ≤ maxLen) :
    Calls Tryz.prog 18 #[.agg #[.string (aId a), .int .i64 (aLim a), .int .i64 (aPos a), .int .i64 (aMost a), .int .i64 (aSum a), vh, .int .i64 (aR a).1, .int .i64 (aR a).2.1, vc, vs, vl], .string s, .int .i64 now] w (acctResCI (frL a s now).1 (frL a s now).2 w) := by
  have HST : Hid (∀ W, Below w.heap.size w W → Calls Tryz.prog 56 #[.agg #[.string (aId a), .int .i64 (aLim a), .int .i64 (aPos a), .int .i64 (aMost a), .int .i64 (aSum a), vh, .int .i64 (aR a).1, .int .i64 (aR a).2.1, vc, vs, vl], .int .i64 now] W (chkRes (kState a now) W)) := Lib.hid (fun W hW => implStateCheck_any hi vh vc vs vl a now W (hg.below hW (Nat.le_refl _)) hz hbig (Rep.below (R := AcctR) h hW hh) (Nat.le_trans hh hW.size))
  have HSW := Lib.hid (fun W (hW : Below w.heap.size w W) => implAcctSwept_any hi vh vc vs vl a now W (hg.below hW (Nat.le_refl _)) hz hbig (Rep.below (R := AcctR) h hW hh) (Nat.le_trans hh hW.size))
  have HIC := Lib.hid (fun V => implIdCheck_any s V hsz)
  have HCO := Lib.hid (free_codes a s now)
  have HSZ := Lib.hid (swept_small hz now)
  have HSB := Lib.hid (swept_big hbig now)
  obtain ⟨xh, xc, xs, xl, hcs, r1, r2, r3, r4⟩ := acct_rd h
  simp only [aCells, List.cons.injEq, and_true, true_and] at hcs
  obtain ⟨rfl, rfl, rfl, rfl⟩ := hcs
  obtain ⟨AH, cH, rfl, -⟩ := Rep.slice_form r1
  obtain ⟨AL, cL, rfl, -⟩ := Rep.slice_form r4
  obtain ⟨AC, cC, rfl, -⟩ := r2.form
  obtain ⟨AS, cS, rfl, -⟩ := r3.form
  clear h r1 r2 r3 r4 hz hbig
  generalize kState a now = k0 at HST HCO
  generalize acctSwept a now = sw at HSW HCO HSZ HSB
  generalize frL a s now = res at HCO ⊢
  obtain ⟨id, lim, pos, most, sum, hs, ⟨sp, hd, cs, ss⟩, sl⟩ := a
  simp only [aId, aLim, aPos, aMost, aSum, aH, aS] at HST HSW ⊢
  have HG := Lib.hid hg
  clear hg
  go_enter Tryz.func18, Tryz.ntmps18
  go_upto_region 1 with fail
  obtain ⟨w0, hW⟩ : ∃ w0, w0 = ((w.alloc (.cells #[.string id, .int .i64 lim, .int .i64 pos, .int .i64 most, .int .i64 sum, .slice AH hs.length cH, .int .i64 sp, .int .i64 hd, .slice AC cs.length cC, .slice AS ss.length cS, .slice AL sl.length cL] 29)).alloc (.cells #[.string ⟨#[]⟩, .int .i64 0, .int .i64 0, .int .i64 0, .int .i64 0, .slice none 0 0, .int .i64 0, .int .i64 0, .slice none 0 0, .slice none 0 0, .slice none 0 0] 29)) := ⟨_, rfl⟩
  have b0 : bk w0 (w.heap.size) 29 [.string id, .int .i64 lim, .int .i64 pos, .int .i64 most, .int .i64 sum, .slice AH hs.length cH, .int .i64 sp, .int .i64 hd, .slice AC cs.length cC, .slice AS ss.length cS, .slice AL sl.length cL] := by rw [hW]; have h0 := bk.new (w) 29 [.string id, .int .i64 lim, .int .i64 pos, .int .i64 most, .int .i64 sum, .slice AH hs.length cH, .int .i64 sp, .int .i64 hd, .slice AC cs.length cC, .slice AS ss.length cS, .slice AL sl.length cL]; have h1 := (bk.alloc h0 (.cells #[.string ⟨#[]⟩, .int .i64 0, .int .i64 0, .int .i64 0, .int .i64 0, .slice none 0 0, .int .i64 0, .int .i64 0, .slice none 0 0, .slice none 0 0, .slice none 0 0] 29)); simpa using h1
  have b1 : bk w0 (w.heap.size + 1) 29 [.string ⟨#[]⟩, .int .i64 0, .int .i64 0, .int .i64 0, .int .i64 0, .slice none 0 0, .int .i64 0, .int .i64 0, .slice none 0 0, .slice none 0 0, .slice none 0 0] := by rw [hW]; have h0 := bk.new ((w.alloc (.cells #[.string id, .int .i64 lim, .int .i64 pos, .int .i64 most, .int .i64 sum, .slice AH hs.length cH, .int .i64 sp, .int .i64 hd, .slice AC cs.length cC, .slice AS ss.length cS, .slice AL sl.length cL] 29))) 29 [.string ⟨#[]⟩, .int .i64 0, .int .i64 0, .int .i64 0, .int .i64 0, .slice none 0 0, .int .i64 0, .int .i64 0, .slice none 0 0, .slice none 0 0, .slice none 0 0]; have h1 := h0; simpa using h1
  have HB : Hid (Below w.heap.size w w0) := Lib.hid (by rw [hW]; exact (((Below.refl w.heap.size w).alloc (Nat.le_refl _) _).alloc (by simp <;> omega) _))
  have z0 : w.heap.size + 2 ≤ w0.heap.size := by rw [hW]; simp
  rw [← hW]
  clear hW
  have B0 := Lib.hid b0
  have B1 := Lib.hid b1
  clear b0 b1
  obtain ⟨⟨p0, p1, p2, p3, p4, p5, p6, p7, p8, p9, p10⟩, -⟩ := B0.out.eleven
  go_wp2_with fail
  refine (HSW.out w0 HB.out).mono ?_
  rintro e w1 ⟨vh2, vc2, vs2, vl2, rfl, hm, hb⟩
  have z1 := hb.size
  replace B0 := Lib.hid (B0.out.below hb (by omega))
  replace B1 := Lib.hid (B1.out.below hb (by omega))
  replace HB : Hid (Below w.heap.size w w1) := Lib.hid (HB.out.trans (hb.mono (by omega)))
  clear hb p0 p1 p2 p3 p4 p5 p6 p7 p8 p9 p10
  obtain ⟨xh, xc, xs, xl, hcs, r1, r2, r3, r4⟩ := acct_rd hm.mine.rd
  simp only [aCells, List.cons.injEq, and_true, true_and] at hcs
  obtain ⟨rfl, rfl, rfl, rfl⟩ := hcs
  obtain ⟨AH2, cH2, rfl, -⟩ := Rep.slice_form r1
  obtain ⟨AL2, cL2, rfl, -⟩ := Rep.slice_form r4
  obtain ⟨AC2, cC2, rfl, -⟩ := r2.form
  obtain ⟨AS2, cS2, rfl, -⟩ := r3.form
  obtain ⟨id2, lim2, pos2, most2, sum2, hs2, ⟨sp2, hd2, cs2, ss2⟩, sl2⟩ := sw
  simp only [aId, aLim, aPos, aMost, aSum, aH, aS] at hm HCO HSZ HSB ⊢
  have HM := Lib.hid hm
  clear hm r1 r2 r3 r4 HSW
  go_upto_region 2 with fail
  obtain ⟨w2, hW⟩ : ∃ V, V = w1.alloc (.cells #[.string id2, .int .i64 lim2, .int .i64 pos2, .int .i64 most2, .int .i64 sum2, .slice AH2 hs2.length cH2, .int .i64 sp2, .int .i64 hd2, .slice AC2 cs2.length cC2, .slice AS2 ss2.length cS2, .slice AL2 sl2.length cL2] 29) := ⟨_, rfl⟩
  have bx : bk w2 w1.heap.size 29 [.string id2, .int .i64 lim2, .int .i64 pos2, .int .i64 most2, .int .i64 sum2, .slice AH2 hs2.length cH2, .int .i64 sp2, .int .i64 hd2, .slice AC2 cs2.length cC2, .slice AS2 ss2.length cS2, .slice AL2 sl2.length cL2] := by rw [hW]; exact bk.new w1 _ _
  have hb : Below w1.heap.size w1 w2 := by rw [hW]; exact (Below.refl _ _).alloc (Nat.le_refl _) _
  rw [← hW]
  clear hW
  have z2 := bx.lt
  have y2 := hb.size
  replace B0 := Lib.hid (B0.out.below hb (by omega))
  replace B1 := Lib.hid (B1.out.below hb (by omega))
  replace HM := Lib.hid (HM.out.below hb (by omega))
  replace HB : Hid (Below w.heap.size w w2) := Lib.hid (HB.out.trans (hb.mono (by omega)))
  have B2 := Lib.hid bx
  clear hb bx
  have HK2 : Hid (∀ V, Below w2.heap.size w2 V → Calls Tryz.prog 59 #[.agg #[.string id2, .int .i64 lim2, .int .i64 pos2, .int .i64 most2, .int .i64 sum2, .slice AH2 hs2.length cH2, .int .i64 sp2, .int .i64 hd2, .slice AC2 cs2.length cC2, .slice AS2 ss2.length cS2, .slice AL2 sl2.length cL2], .string s] V (chkRes (kHeld (id2, lim2, pos2, most2, sum2, hs2, (sp2, hd2, cs2, ss2), sl2) s) V)) := Lib.hid (fun V hV => implHeldCheck_any _ _ _ _ _ (id2, lim2, pos2, most2, sum2, hs2, (sp2, hd2, cs2, ss2), sl2) s V HSZ.out HSB.out (Rep.below (R := AcctR) HM.out.mine.rd hV (by omega)) (Nat.le_trans (by omega) hV.size))
  generalize kHeld (id2, lim2, pos2, most2, sum2, hs2, (sp2, hd2, cs2, ss2), sl2) s = k2 at HK2 HCO
  have HK0 := Lib.hid (fun V (hV : Below w2.heap.size w2 V) => HST.out V (HB.out.trans (hV.mono (by omega))))
  have HK1 : Hid (∀ V, Below w2.heap.size w2 V → Calls Tryz.prog 57 #[.string s] V (chkRes (kId s) V)) := Lib.hid (fun V _ => HIC.out V)
  generalize kId s = k1 at HK1 HCO
  clear HST HIC
  have HS : Hid (∀ V, Below w2.heap.size w2 V → V.cell? ⟨w.heap.size, 0, none⟩ = some (.string id) ∧ V.cell? ⟨w.heap.size, 1, none⟩ = some (.int .i64 lim) ∧ V.cell? ⟨w.heap.size, 2, none⟩ = some (.int .i64 pos) ∧ V.cell? ⟨w.heap.size, 3, none⟩ = some (.int .i64 most) ∧ V.cell? ⟨w.heap.size, 4, none⟩ = some (.int .i64 sum) ∧ V.cell? ⟨w.heap.size, 5, none⟩ = some (.slice AH hs.length cH) ∧ V.cell? ⟨w.heap.size, 6, none⟩ = some (.int .i64 sp) ∧ V.cell? ⟨w.heap.size, 7, none⟩ = some (.int .i64 hd) ∧ V.cell? ⟨w.heap.size, 8, none⟩ = some (.slice AC cs.length cC) ∧ V.cell? ⟨w.heap.size, 9, none⟩ = some (.slice AS ss.length cS) ∧ V.cell? ⟨w.heap.size, 10, none⟩ = some (.slice AL sl.length cL) ∧ V.cell? ⟨w1.heap.size, 0, none⟩ = some (.string id2) ∧ V.cell? ⟨w1.heap.size, 1, none⟩ = some (.int .i64 lim2) ∧ V.cell? ⟨w1.heap.size, 2, none⟩ = some (.int .i64 pos2) ∧ V.cell? ⟨w1.heap.size, 3, none⟩ = some (.int .i64 most2) ∧ V.cell? ⟨w1.heap.size, 4, none⟩ = some (.int .i64 sum2) ∧ V.cell? ⟨w1.heap.size, 5, none⟩ = some (.slice AH2 hs2.length cH2) ∧ V.cell? ⟨w1.heap.size, 6, none⟩ = some (.int .i64 sp2) ∧ V.cell? ⟨w1.heap.size, 7, none⟩ = some (.int .i64 hd2) ∧ V.cell? ⟨w1.heap.size, 8, none⟩ = some (.slice AC2 cs2.length cC2) ∧ V.cell? ⟨w1.heap.size, 9, none⟩ = some (.slice AS2 ss2.length cS2) ∧ V.cell? ⟨w1.heap.size, 10, none⟩ = some (.slice AL2 sl2.length cL2)) := Lib.hid fun V hV => by
    obtain ⟨⟨p0_0, p0_1, p0_2, p0_3, p0_4, p0_5, p0_6, p0_7, p0_8, p0_9, p0_10⟩, -⟩ := (B0.out.below hV (by omega)).eleven
    obtain ⟨⟨p1_0, p1_1, p1_2, p1_3, p1_4, p1_5, p1_6, p1_7, p1_8, p1_9, p1_10⟩, -⟩ := (B2.out.below hV (by omega)).eleven
    exact ⟨p0_0, p0_1, p0_2, p0_3, p0_4, p0_5, p0_6, p0_7, p0_8, p0_9, p0_10, p1_0, p1_1, p1_2, p1_3, p1_4, p1_5, p1_6, p1_7, p1_8, p1_9, p1_10⟩
  have hD : Below w2.heap.size w2 w2.drew := (Below.refl _ _).drew
  go_region_held3 (fun V => V.cell? ⟨w.heap.size, 0, none⟩ = some (.string id) ∧ V.cell? ⟨w.heap.size, 1, none⟩ = some (.int .i64 lim) ∧ V.cell? ⟨w.heap.size, 2, none⟩ = some (.int .i64 pos) ∧ V.cell? ⟨w.heap.size, 3, none⟩ = some (.int .i64 most) ∧ V.cell? ⟨w.heap.size, 4, none⟩ = some (.int .i64 sum) ∧ V.cell? ⟨w.heap.size, 5, none⟩ = some (.slice AH hs.length cH) ∧ V.cell? ⟨w.heap.size, 6, none⟩ = some (.int .i64 sp) ∧ V.cell? ⟨w.heap.size, 7, none⟩ = some (.int .i64 hd) ∧ V.cell? ⟨w.heap.size, 8, none⟩ = some (.slice AC cs.length cC) ∧ V.cell? ⟨w.heap.size, 9, none⟩ = some (.slice AS ss.length cS) ∧ V.cell? ⟨w.heap.size, 10, none⟩ = some (.slice AL sl.length cL) ∧ V.cell? ⟨w1.heap.size, 0, none⟩ = some (.string id2) ∧ V.cell? ⟨w1.heap.size, 1, none⟩ = some (.int .i64 lim2) ∧ V.cell? ⟨w1.heap.size, 2, none⟩ = some (.int .i64 pos2) ∧ V.cell? ⟨w1.heap.size, 3, none⟩ = some (.int .i64 most2) ∧ V.cell? ⟨w1.heap.size, 4, none⟩ = some (.int .i64 sum2) ∧ V.cell? ⟨w1.heap.size, 5, none⟩ = some (.slice AH2 hs2.length cH2) ∧ V.cell? ⟨w1.heap.size, 6, none⟩ = some (.int .i64 sp2) ∧ V.cell? ⟨w1.heap.size, 7, none⟩ = some (.int .i64 hd2) ∧ V.cell? ⟨w1.heap.size, 8, none⟩ = some (.slice AC2 cs2.length cC2) ∧ V.cell? ⟨w1.heap.size, 9, none⟩ = some (.slice AS2 ss2.length cS2) ∧ V.cell? ⟨w1.heap.size, 10, none⟩ = some (.slice AL2 sl2.length cL2)) (first | exact HS.out _ (by assumption) | exact HS.out _ (e2.alloc e2.size _)) (first | (go_at_call 56; (with_reducible refine (HK0.out _ hD).mono ?_); rintro e wk0 ⟨gg0, ll0, rfl, hc0, hbk0⟩; have e0 := hD.trans (hbk0.mono hD.size)) | (go_at_call 57; (with_reducible refine (HK1.out _ e0).mono ?_); rintro e wk1 ⟨gg1, ll1, rfl, hc1, hbk1⟩; have e1 := e0.trans (hbk1.mono e0.size)) | (go_at_call 59; (with_reducible refine (HK2.out _ e1).mono ?_); rintro e wk2 ⟨gg2, ll2, rfl, hc2, hbk2⟩; have e2 := e1.trans (hbk2.mono e1.size)) | (go_at_call 55; refine (implDecideRow_any [(gg0, ll0, k0), (gg1, ll1, k1), (gg2, ll2, k2)] [k0, k1, k2] _ _ wk2 rfl (Nat.le_of_ble_eq_true rfl) (by have q0 := ((hc0.later hbk1).later hbk2); have q1 := (hc1.later hbk2); have q2 := hc2; intro x hx; simp only [List.mem_cons, List.not_mem_nil, or_false] at hx; rcases hx with rfl | rfl | rfl; (exact q0); (exact q1); (exact q2))).mono ?_; rintro e wkD ⟨rfl, hbD⟩; have eD := e2.trans (hbD.mono e2.size)) | fail)
  clear HK0 HK1 HK2 hc0 hc1 hc2
  have hb := eD
  have zD := hb.size
  replace B0 := Lib.hid (B0.out.below hb (by omega))
  replace B1 := Lib.hid (B1.out.below hb (by omega))
  replace HM := Lib.hid (HM.out.below hb (by omega))
  replace B2 := Lib.hid (B2.out.below hb (by omega))
  replace HB : Hid (Below w.heap.size w wkD) := Lib.hid (HB.out.trans (hb.mono (by omega)))
  clear hb eD hbD hD HS e0 hbk0 e1 hbk1 e2 hbk2
  generalize firstC [k0, k1, k2] = kk at HCO ⊢
  by_cases h0 : kk = 0
  rotate_left
  · have HD : Hid (res = (acctNil, kk)) := Lib.hid (by obtain ⟨q1, q2, q3⟩ := HCO.out; exact Prod.ext (q2 h0) q1.symm)
    clear HCO B0 B2 HM HSZ HSB HG
    obtain ⟨⟨r0, r1, r2, r3, r4, r5, r6, r7, r8, r9, r10⟩, g0, g1, g2, g3, g4, g5, g6, g7, g8, g9, g10⟩ := B1.out.eleven
    go_wp2
    refine bodyPost_ret (v := .tuple #[.agg #[.string ⟨#[]⟩, .int .i64 0, .int .i64 0, .int .i64 0, .int .i64 0, .slice none 0 0, .int .i64 0, .int .i64 0, .slice none 0 0, .slice none 0 0, .slice none 0 0], .int .i64 kk]) (by simp [results, Tryz.results18, go_sem, r0, r1, r2, r3, r4, r5, r6, r7, r8, r9, r10]) rfl ?_
    have ht := (((((((((((Turned.refl (w.heap.size + 1) ((w.heap.size + 1 + 1)) wkD).set (b := w.heap.size + 1) 0 (.string ⟨#[]⟩) (by omega) (by omega)).set (b := w.heap.size + 1) 1 (.int .i64 0) (by omega) (by omega)).set (b := w.heap.size + 1) 2 (.int .i64 0) (by omega) (by omega)).set (b := w.heap.size + 1) 3 (.int .i64 0) (by omega) (by omega)).set (b := w.heap.size + 1) 4 (.int .i64 0) (by omega) (by omega)).set (b := w.heap.size + 1) 5 (.slice none 0 0) (by omega) (by omega)).set (b := w.heap.size + 1) 6 (.int .i64 0) (by omega) (by omega)).set (b := w.heap.size + 1) 7 (.int .i64 0) (by omega) (by omega)).set (b := w.heap.size + 1) 8 (.slice none 0 0) (by omega) (by omega)).set (b := w.heap.size + 1) 9 (.slice none 0 0) (by omega) (by omega)).set (b := w.heap.size + 1) 10 (.slice none 0 0) (by omega) (by omega)
    have hsz2 := ht.size
    rw [HD.out]
    exact ⟨_, _, _, _, rfl, acctI_zero _ _ _ (by omega), HB.out.trans (ht.below (by omega) (by omega))⟩
  subst h0
  have HD : Hid (res = (setH (id2, lim2, pos2, most2, sum2, hs2, (sp2, hd2, cs2, ss2), sl2) (dropL hs2 s), 0)) := Lib.hid (by obtain ⟨q1, q2, q3⟩ := HCO.out; exact Prod.ext (q3 rfl) q1.symm)
  clear HCO
  obtain ⟨⟨p0, p1, p2, p3, p4, p5, p6, p7, p8, p9, p10⟩, -⟩ := B2.out.eleven
  go_wp2_with fail
  refine (implWithoutHold_any _ _ _ _ _ _ (id2, lim2, pos2, most2, sum2, hs2, (sp2, hd2, cs2, ss2), sl2) s wkD HSZ.out HM.out (by omega) (by omega)).mono ?_
  rintro e w3 ⟨vh5, rfl, hm, hb⟩
  have z3 := hb.size
  replace B0 := Lib.hid (B0.out.below hb (by omega))
  replace B1 := Lib.hid (B1.out.below hb (by omega))
  replace HM := Lib.hid (HM.out.below hb (by omega))
  replace B2 := Lib.hid (B2.out.below hb (by omega))
  replace HB : Hid (Below w.heap.size w w3) := Lib.hid (HB.out.trans (hb.mono (by omega)))
  clear hb p0 p1 p2 p3 p4 p5 p6 p7 p8 p9 p10
  simp only [aId, aLim, aPos, aMost, aSum, aH, aR, aS, setH] at hm HD ⊢
  generalize dropL hs2 s = ls at hm HD
  obtain ⟨xh, xc, xs, xl, hcs, r1, -, -, -⟩ := acct_rd hm.mine.rd
  simp only [aCells, List.cons.injEq, and_true, true_and] at hcs
  obtain ⟨rfl, -, -, -⟩ := hcs
  simp only [aH] at r1
  obtain ⟨AN, cN, rfl, -⟩ := Rep.slice_form r1
  clear r1
  clear B0 B2 HM
  have HM := Lib.hid hm
  clear hm
  obtain ⟨⟨r0, r1, r2, r3, r4, r5, r6, r7, r8, r9, r10⟩, g0, g1, g2, g3, g4, g5, g6, g7, g8, g9, g10⟩ := B1.out.eleven
  go_wp2
  refine bodyPost_ret (v := .tuple #[.agg #[.string id2, .int .i64 lim2, .int .i64 pos2, .int .i64 most2, .int .i64 sum2, .slice AN ls.length cN, .int .i64 sp2, .int .i64 hd2, .slice AC2 cs2.length cC2, .slice AS2 ss2.length cS2, .slice AL2 sl2.length cL2], .int .i64 0]) (by simp [results, Tryz.results18, go_sem, r0, r1, r2, r3, r4, r5, r6, r7, r8, r9, r10]) rfl ?_
  have ht := (((((((((((Turned.refl (w.heap.size + 1) ((w.heap.size + 1 + 1)) w3).set (b := w.heap.size + 1) 0 (.string id2) (by omega) (by omega)).set (b := w.heap.size + 1) 1 (.int .i64 lim2) (by omega) (by omega)).set (b := w.heap.size + 1) 2 (.int .i64 pos2) (by omega) (by omega)).set (b := w.heap.size + 1) 3 (.int .i64 most2) (by omega) (by omega)).set (b := w.heap.size + 1) 4 (.int .i64 sum2) (by omega) (by omega)).set (b := w.heap.size + 1) 5 (.slice AN ls.length cN) (by omega) (by omega)).set (b := w.heap.size + 1) 6 (.int .i64 sp2) (by omega) (by omega)).set (b := w.heap.size + 1) 7 (.int .i64 hd2) (by omega) (by omega)).set (b := w.heap.size + 1) 8 (.slice AC2 cs2.length cC2) (by omega) (by omega)).set (b := w.heap.size + 1) 9 (.slice AS2 ss2.length cS2) (by omega) (by omega)).set (b := w.heap.size + 1) 10 (.slice AL2 sl2.length cL2) (by omega) (by omega)
  have hsz2 := ht.size
  rw [HD.out]
  exact ⟨_, _, _, _, rfl, (HM.out.turned ht (.inr (by omega)) (by omega)).mono (by omega) (by omega), HB.out.trans (ht.below (by omega) (by omega))⟩
end Go.Proofs.YtnmijppppcgobaaGreatDoor
