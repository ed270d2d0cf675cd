/- Capture of the reference; no conditions. -/
import Derived.Test.YtnmijppppcgobaaGreatDoorMrg10
import Derived.Test.YtnmijppppcgobaaGreatDoorMrg5
import Derived.Test.YtnmijppppcgobaaGreatDoorMrg4
import Derived.Test.YtnmijppppcgobaaGreatDoorMrg16
import Derived.Test.YtnmijppppcgobaaGreatDoorMrg3
set_option linter.unusedVariables false
namespace Go.Proofs.YtnmijppppcgobaaGreatDoor
open Go.ChangeShapes Go.WideShapes Go.ChangeAt Go.RowKit

set_option maxRecDepth 100000 in
theorem acct_setP {lo hi : Nat} {w : World} {a : AcctD} {vh vc vs vl : Value} (h : AcctR.mine lo hi w (aCells a vh vc vs vl) a) (p : Int) : AcctR.mine lo hi w (aCells (setP a p) vh vc vs vl) (setP a p) := by
  obtain ⟨uh, uc, us, ul, F, G, H, hcs, o1, o2, o3, n1, n2, n3, ap, hb⟩ := acct_mine h
  simp only [aCells, List.cons.injEq, and_true, true_and] at hcs
  obtain ⟨rfl, rfl, rfl, rfl⟩ := hcs
  exact acct_mine_of (a := setP a p) o1 o2 o3 n1 n2 n3 ap hb
set_option maxRecDepth 100000 in
theorem swept_pos {a : AcctD} {now : Int} (h : acctOk a = true) : 0 ≤ aPos (acctSwept a now) ∧ aPos (acctSwept a now) ≤ 4611686018427387904 := by
  have h1 : isMon (aPos a) = true := by
    unfold acctOk acctHead at h
    simp only [Bool.and_eq_true] at h
    exact h.1.2.2.2.2
  have h2 := isMon_true h1
  unfold acctSwept
  split
  · exact h2
  · exact h2
set_option maxRecDepth 100000 in
set_option maxHeartbeats 16000000 in
theorem specCapture_any (hi : Nat) (vh vc vs vl : Value) (a : AcctD) (s : ByteArray) (n : Int) (last : Bool) (now : Int) (w : World) (hz : acctSmall 1048576 a) (hbig : acctBig a) (h : AcctR.rd hi w (aCells a vh vc vs vl) a) (hh : hi ≤ w.heap.size) (hsz : s.size ≤ maxLen) :
    Calls Tryz.prog 43 #[.agg #[.string (aId a), .int .i64 (aLim a), .int .i64 (aPos a), .int .i64 (aMost a), .int .i64 (aSum a), vh, .int .i64 (aR a).1, .int .i64 (aR a).2.1, vc, vs, vl], .string s, .int .i64 n, .bool last, .int .i64 now] w (acctResC (capL a s n last now).1 (capL a s n last now).2 w) := by
  have HFO := Lib.hid (fun W (hW : Below w.heap.size w W) => specForm_any hi vh vc vs vl a s now W hz hbig hsz (Rep.below (R := AcctR) h hW hh) (Nat.le_trans hh hW.size))
  have HSW := Lib.hid (fun W (hW : Below w.heap.size w W) => specAcctSwept_any hi vh vc vs vl a now W hz hbig (Rep.below (R := AcctR) h hW hh) (Nat.le_trans hh hW.size))
  have HI1 := Lib.hid (fun W => inB_any n 1 9007199254740992 W)
  have HD : Hid (capL a s n last now = if formB a s now = false then (acctNil, 1) else if inB n 1 9007199254740992 = false then (acctNil, 4) else capOn (acctSwept a now) s n last) := Lib.hid rfl
  have HFW : Hid (formB a s now = true → acctFew (acctSwept a now) ∧ (∀ x ∈ aH (acctSwept a now), 1 ≤ x.2.1 ∧ x.2.1 ≤ 9007199254740992) ∧ (0 ≤ aPos (acctSwept a now) ∧ aPos (acctSwept a now) ≤ 4611686018427387904)) := Lib.hid fun hf => ⟨few_swept (acctOk_few (form_ok hf)), swept_amt (form_ok hf), swept_pos (form_ok hf)⟩
  have HNN : Hid (inB n 1 9007199254740992 = true → 1 ≤ n ∧ n ≤ 9007199254740992) := Lib.hid fun h1 => by unfold inB at h1; exact of_decide_eq_true h1
  obtain ⟨xh, xc, xs, xl, hcs, r1, r2, r3, r4⟩ := acct_rd h
  simp only [aCells, List.cons.injEq, and_true, true_and] at hcs
  obtain ⟨rfl, rfl, rfl, rfl⟩ := hcs
  obtain ⟨AH, cH, rfl, -⟩ := Rep.slice_form r1
  obtain ⟨AL, cL, rfl, -⟩ := Rep.slice_form r4
  obtain ⟨AC, cC, rfl, -⟩ := r2.form
  obtain ⟨AS, cS, rfl, -⟩ := r3.form
  clear h r1 r2 r3 r4 hz hbig
  generalize formB a s now = fo at HFO HD HFW
  generalize inB n 1 9007199254740992 = i1 at HI1 HD HNN
  generalize capL a s n last now = res at HD ⊢
  generalize acctSwept a now = sw at HSW HD HFW
  obtain ⟨id, lim, pos, most, sum, hs, ⟨sp, hd, cs, ss⟩, sl⟩ := a
  simp only [aId, aLim, aPos, aMost, aSum, aH, aS] at HFO HSW
  go_enter Tryz.func43, Tryz.ntmps43
  go_upto_region 1 with fail
  obtain ⟨w0, hW⟩ : ∃ w0, w0 = ((w.alloc (.cells #[.string id, .int .i64 lim, .int .i64 pos, .int .i64 most, .int .i64 sum, .slice AH hs.length cH, .int .i64 sp, .int .i64 hd, .slice AC cs.length cC, .slice AS ss.length cS, .slice AL sl.length cL] 29)).alloc (.cells #[.string ⟨#[]⟩, .int .i64 0, .int .i64 0, .int .i64 0, .int .i64 0, .slice none 0 0, .int .i64 0, .int .i64 0, .slice none 0 0, .slice none 0 0, .slice none 0 0] 29)) := ⟨_, rfl⟩
  have b0 : bk w0 (w.heap.size) 29 [.string id, .int .i64 lim, .int .i64 pos, .int .i64 most, .int .i64 sum, .slice AH hs.length cH, .int .i64 sp, .int .i64 hd, .slice AC cs.length cC, .slice AS ss.length cS, .slice AL sl.length cL] := by rw [hW]; have h0 := bk.new (w) 29 [.string id, .int .i64 lim, .int .i64 pos, .int .i64 most, .int .i64 sum, .slice AH hs.length cH, .int .i64 sp, .int .i64 hd, .slice AC cs.length cC, .slice AS ss.length cS, .slice AL sl.length cL]; have h1 := h0.alloc (.cells #[.string ⟨#[]⟩, .int .i64 0, .int .i64 0, .int .i64 0, .int .i64 0, .slice none 0 0, .int .i64 0, .int .i64 0, .slice none 0 0, .slice none 0 0, .slice none 0 0] 29); simpa using h1
  have b1 : bk w0 (w.heap.size + 1) 29 [.string ⟨#[]⟩, .int .i64 0, .int .i64 0, .int .i64 0, .int .i64 0, .slice none 0 0, .int .i64 0, .int .i64 0, .slice none 0 0, .slice none 0 0, .slice none 0 0] := by rw [hW]; have h0 := bk.new ((w.alloc (.cells #[.string id, .int .i64 lim, .int .i64 pos, .int .i64 most, .int .i64 sum, .slice AH hs.length cH, .int .i64 sp, .int .i64 hd, .slice AC cs.length cC, .slice AS ss.length cS, .slice AL sl.length cL] 29))) 29 [.string ⟨#[]⟩, .int .i64 0, .int .i64 0, .int .i64 0, .int .i64 0, .slice none 0 0, .int .i64 0, .int .i64 0, .slice none 0 0, .slice none 0 0, .slice none 0 0]; have h1 := h0; simpa using h1
  have HB : Hid (Below w.heap.size w w0) := Lib.hid (by rw [hW]; exact (((Below.refl w.heap.size w).alloc (Nat.le_refl _) _).alloc (by simp <;> omega) _))
  have z0 : w.heap.size + 2 ≤ w0.heap.size := by rw [hW]; simp
  rw [← hW]
  clear hW
  have B0 := Lib.hid b0
  have B1 := Lib.hid b1
  clear b0 b1
  obtain ⟨⟨p0, p1, p2, p3, p4, p5, p6, p7, p8, p9, p10⟩, -⟩ := B0.out.eleven
  go_wp2_with fail
  refine (HFO.out w0 HB.out).mono ?_
  rintro e w1 ⟨rfl, hb⟩
  have z1 := hb.size
  replace B0 := Lib.hid (B0.out.below hb (by omega))
  replace B1 := Lib.hid (B1.out.below hb (by omega))
  replace HB : Hid (Below w.heap.size w w1) := Lib.hid (HB.out.trans (hb.mono (by omega)))
  clear hb HFO p0 p1 p2 p3 p4 p5 p6 p7 p8 p9 p10
  cases fo
  · replace HD : Hid (res = (acctNil, 1)) := Lib.hid (by rw [HD.out]; rfl)
    clear B0 HSW HFW HI1 HNN
    obtain ⟨⟨r0, r1, r2, r3, r4, r5, r6, r7, r8, r9, r10⟩, g0, g1, g2, g3, g4, g5, g6, g7, g8, g9, g10⟩ := B1.out.eleven
    go_wp2
    refine bodyPost_ret (v := .tuple #[.agg #[.string ⟨#[]⟩, .int .i64 0, .int .i64 0, .int .i64 0, .int .i64 0, .slice none 0 0, .int .i64 0, .int .i64 0, .slice none 0 0, .slice none 0 0, .slice none 0 0], .int .i64 1]) (by simp [results, Tryz.results43, go_sem, r0, r1, r2, r3, r4, r5, r6, r7, r8, r9, r10]) rfl ?_
    have ht := (((((((((((Turned.refl w.heap.size (w.heap.size + 2) w1).set (b := w.heap.size + 1) 0 (.string ⟨#[]⟩) (by omega) (by omega)).set (b := w.heap.size + 1) 1 (.int .i64 0) (by omega) (by omega)).set (b := w.heap.size + 1) 2 (.int .i64 0) (by omega) (by omega)).set (b := w.heap.size + 1) 3 (.int .i64 0) (by omega) (by omega)).set (b := w.heap.size + 1) 4 (.int .i64 0) (by omega) (by omega)).set (b := w.heap.size + 1) 5 (.slice none 0 0) (by omega) (by omega)).set (b := w.heap.size + 1) 6 (.int .i64 0) (by omega) (by omega)).set (b := w.heap.size + 1) 7 (.int .i64 0) (by omega) (by omega)).set (b := w.heap.size + 1) 8 (.slice none 0 0) (by omega) (by omega)).set (b := w.heap.size + 1) 9 (.slice none 0 0) (by omega) (by omega)).set (b := w.heap.size + 1) 10 (.slice none 0 0) (by omega) (by omega)
    have hsz := ht.size
    rw [HD.out]
    exact ⟨_, _, _, _, rfl, acct_mine_ivl (p1 := w.heap.size) (p2 := w.heap.size) (holds_none _ _ _) (ring_mine_of (nums_none _ _ _ _) (nums_none _ _ _ _) (by intro b h; cases h)) (slots_none _ _ _) (by omega) (by omega) (by omega), HB.out.trans (ht.below (by omega) (by omega))⟩
  obtain ⟨hfw, ham, hps⟩ := HFW.out rfl
  clear HFW
  go_wp2_with fail
  refine (HI1.out w1).mono ?_
  rintro e wx ⟨rfl, rfl⟩
  cases i1
  · replace HD : Hid (res = (acctNil, 4)) := Lib.hid (by rw [HD.out]; rfl)
    clear B0 HSW HI1 HNN ham hfw hps
    obtain ⟨⟨r0, r1, r2, r3, r4, r5, r6, r7, r8, r9, r10⟩, g0, g1, g2, g3, g4, g5, g6, g7, g8, g9, g10⟩ := B1.out.eleven
    go_wp2
    refine bodyPost_ret (v := .tuple #[.agg #[.string ⟨#[]⟩, .int .i64 0, .int .i64 0, .int .i64 0, .int .i64 0, .slice none 0 0, .int .i64 0, .int .i64 0, .slice none 0 0, .slice none 0 0, .slice none 0 0], .int .i64 4]) (by simp [results, Tryz.results43, go_sem, r0, r1, r2, r3, r4, r5, r6, r7, r8, r9, r10]) rfl ?_
    have ht := (((((((((((Turned.refl w.heap.size (w.heap.size + 2) w1).set (b := w.heap.size + 1) 0 (.string ⟨#[]⟩) (by omega) (by omega)).set (b := w.heap.size + 1) 1 (.int .i64 0) (by omega) (by omega)).set (b := w.heap.size + 1) 2 (.int .i64 0) (by omega) (by omega)).set (b := w.heap.size + 1) 3 (.int .i64 0) (by omega) (by omega)).set (b := w.heap.size + 1) 4 (.int .i64 0) (by omega) (by omega)).set (b := w.heap.size + 1) 5 (.slice none 0 0) (by omega) (by omega)).set (b := w.heap.size + 1) 6 (.int .i64 0) (by omega) (by omega)).set (b := w.heap.size + 1) 7 (.int .i64 0) (by omega) (by omega)).set (b := w.heap.size + 1) 8 (.slice none 0 0) (by omega) (by omega)).set (b := w.heap.size + 1) 9 (.slice none 0 0) (by omega) (by omega)).set (b := w.heap.size + 1) 10 (.slice none 0 0) (by omega) (by omega)
    have hsz := ht.size
    rw [HD.out]
    exact ⟨_, _, _, _, rfl, acct_mine_ivl (p1 := w.heap.size) (p2 := w.heap.size) (holds_none _ _ _) (ring_mine_of (nums_none _ _ _ _) (nums_none _ _ _ _) (by intro b h; cases h)) (slots_none _ _ _) (by omega) (by omega) (by omega), HB.out.trans (ht.below (by omega) (by omega))⟩
  obtain ⟨n0, n1⟩ := HNN.out rfl
  clear HNN HI1
  replace HD : Hid (res = capOn sw s n last) := Lib.hid (by rw [HD.out]; rfl)
  obtain ⟨⟨p0, p1, p2, p3, p4, p5, p6, p7, p8, p9, p10⟩, -⟩ := B0.out.eleven
  go_wp2_with fail
  refine (HSW.out w1 HB.out).mono ?_
  rintro e w2 ⟨vh2, vc2, vs2, vl2, rfl, hm2, hb⟩
  have z2 := hb.size
  replace B0 := Lib.hid (B0.out.below hb (by omega))
  replace B1 := Lib.hid (B1.out.below hb (by omega))
  replace HB : Hid (Below w.heap.size w w2) := Lib.hid (HB.out.trans (hb.mono (by omega)))
  clear hb HSW p0 p1 p2 p3 p4 p5 p6 p7 p8 p9 p10
  clear B0
  obtain ⟨xh, xc, xs, xl, hcs, r1, r2, r3, r4⟩ := acct_rd hm2.rd
  simp only [aCells, List.cons.injEq, and_true, true_and] at hcs
  obtain ⟨rfl, rfl, rfl, rfl⟩ := hcs
  obtain ⟨AH2, cH2, rfl, -⟩ := Rep.slice_form r1
  obtain ⟨AL2, cL2, rfl, -⟩ := Rep.slice_form r4
  obtain ⟨AC2, cC2, rfl, -⟩ := r2.form
  obtain ⟨AS2, cS2, rfl, -⟩ := r3.form
  obtain ⟨id2, lim2, pos2, most2, sum2, hs2, ⟨sp2, hd2, cs2, ss2⟩, sl2⟩ := sw
  simp only [aId, aLim, aPos, aMost, aSum, aH, aS] at hm2 ham hps ⊢
  clear r1 r2 r3 r4
  have hl4 : hs2.length ≤ 4 := hfw.h
  obtain ⟨o0, o1⟩ := hps
  have HAM := Lib.hid ham
  clear hfw ham
  have HM := Lib.hid hm2
  clear hm2
  go_upto_region 6 with fail
  obtain ⟨w3, hW⟩ : ∃ V, V = w2.alloc (.cells #[.string id2, .int .i64 lim2, .int .i64 pos2, .int .i64 most2, .int .i64 sum2, .slice AH2 hs2.length cH2, .int .i64 sp2, .int .i64 hd2, .slice AC2 cs2.length cC2, .slice AS2 ss2.length cS2, .slice AL2 sl2.length cL2] 29) := ⟨_, rfl⟩
  have bx : bk w3 w2.heap.size 29 [.string id2, .int .i64 lim2, .int .i64 pos2, .int .i64 most2, .int .i64 sum2, .slice AH2 hs2.length cH2, .int .i64 sp2, .int .i64 hd2, .slice AC2 cs2.length cC2, .slice AS2 ss2.length cS2, .slice AL2 sl2.length cL2] := by rw [hW]; exact bk.new w2 _ _
  have hb : Below w2.heap.size w2 w3 := by rw [hW]; exact (Below.refl _ _).alloc (Nat.le_refl _) _
  rw [← hW]
  clear hW
  have z3 := bx.lt
  have y3 := hb.size
  replace B1 := Lib.hid (B1.out.below hb (by omega))
  replace HM := Lib.hid (HM.out.below hb (by omega))
  replace HB : Hid (Below w.heap.size w w3) := Lib.hid (HB.out.trans (hb.mono (by omega)))
  have B2 := Lib.hid bx
  clear hb bx
  obtain ⟨xh, xc, xs, xl, hcs, r1, -, -, -⟩ := acct_rd HM.out.rd
  simp only [aCells, List.cons.injEq, and_true, true_and] at hcs
  obtain ⟨rfl, -, -, -⟩ := hcs
  have HHA := Lib.hid (specHoldAt_any w2.heap.size _ hs2 s w3 (by omega) r1 (by omega))
  clear r1
  have HON : Hid (capOn (id2, lim2, pos2, most2, sum2, hs2, (sp2, hd2, cs2, ss2), sl2) s n last = if findH hs2 s < 0 then (acctNil, 5) else if (hs2.getD (findH hs2 s).toNat noH).2.1 < n then (acctNil, 7) else if (last || decide (n = (hs2.getD (findH hs2 s).toNat noH).2.1)) = true then ((id2, lim2, pos2 + n, most2, sum2, dropL hs2 s, (sp2, hd2, cs2, ss2), sl2), 0) else ((id2, lim2, pos2 + n, most2, sum2, amtAt hs2 (findH hs2 s).toNat ((hs2.getD (findH hs2 s).toNat noH).2.1 - n), (sp2, hd2, cs2, ss2), sl2), 0)) := Lib.hid rfl
  rw [HON.out] at HD
  clear HON
  have HFL := Lib.hid (@findH_lt hs2 s)
  generalize findH hs2 s = at_ at HHA HD HFL
  obtain ⟨⟨p0, p1, p2, p3, p4, p5, p6, p7, p8, p9, p10⟩, -⟩ := B2.out.eleven
  go_wp2_with fail
  refine (HHA.out).mono ?_
  rintro e w4 ⟨rfl, hb⟩
  have z4 := hb.size
  replace B1 := Lib.hid (B1.out.below hb (by omega))
  replace HM := Lib.hid (HM.out.below hb (by omega))
  replace B2 := Lib.hid (B2.out.below hb (by omega))
  replace HB : Hid (Below w.heap.size w w4) := Lib.hid (HB.out.trans (hb.mono (by omega)))
  clear hb HHA p0 p1 p2 p3 p4 p5 p6 p7 p8 p9 p10
  by_cases c1 : at_ < 0
  · replace HD : Hid (res = (acctNil, 5)) := Lib.hid (by rw [HD.out, if_pos c1])
    clear B2 HM HFL HAM
    obtain ⟨⟨r0, r1, r2, r3, r4, r5, r6, r7, r8, r9, r10⟩, g0, g1, g2, g3, g4, g5, g6, g7, g8, g9, g10⟩ := B1.out.eleven
    go_wp2
    refine bodyPost_ret (v := .tuple #[.agg #[.string ⟨#[]⟩, .int .i64 0, .int .i64 0, .int .i64 0, .int .i64 0, .slice none 0 0, .int .i64 0, .int .i64 0, .slice none 0 0, .slice none 0 0, .slice none 0 0], .int .i64 5]) (by simp [results, Tryz.results43, go_sem, r0, r1, r2, r3, r4, r5, r6, r7, r8, r9, r10]) rfl ?_
    have ht := (((((((((((Turned.refl w.heap.size (w.heap.size + 2) w4).set (b := w.heap.size + 1) 0 (.string ⟨#[]⟩) (by omega) (by omega)).set (b := w.heap.size + 1) 1 (.int .i64 0) (by omega) (by omega)).set (b := w.heap.size + 1) 2 (.int .i64 0) (by omega) (by omega)).set (b := w.heap.size + 1) 3 (.int .i64 0) (by omega) (by omega)).set (b := w.heap.size + 1) 4 (.int .i64 0) (by omega) (by omega)).set (b := w.heap.size + 1) 5 (.slice none 0 0) (by omega) (by omega)).set (b := w.heap.size + 1) 6 (.int .i64 0) (by omega) (by omega)).set (b := w.heap.size + 1) 7 (.int .i64 0) (by omega) (by omega)).set (b := w.heap.size + 1) 8 (.slice none 0 0) (by omega) (by omega)).set (b := w.heap.size + 1) 9 (.slice none 0 0) (by omega) (by omega)).set (b := w.heap.size + 1) 10 (.slice none 0 0) (by omega) (by omega)
    have hsz := ht.size
    rw [HD.out]
    exact ⟨_, _, _, _, rfl, acct_mine_ivl (p1 := w.heap.size) (p2 := w.heap.size) (holds_none _ _ _) (ring_mine_of (nums_none _ _ _ _) (nums_none _ _ _ _) (by intro b h; cases h)) (slots_none _ _ _) (by omega) (by omega) (by omega), HB.out.trans (ht.below (by omega) (by omega))⟩
  replace HD := Lib.hid (HD.out.trans (if_neg c1))
  obtain ⟨hk, hka, -⟩ := HFL.out (by omega)
  clear HFL
  generalize at_.toNat = K at hk hka HD
  subst hka
  obtain ⟨m0, m1⟩ := HAM.out _ (List.mem_of_getElem? (getD_at hk))
  clear HAM
  skip
  skip
  have k0 : (0 : Int) ≤ (K : Int) := by omega
  have k1 : (K : Int) < (hs2.length : Int) := by omega
  obtain ⟨bh, oh, ch, hv, hch, hb1, hb2, hat, hfz, hset⟩ := acct_setAmt HM.out (k := K) hk
  simp only [aH] at hv hch hat hset
  simp only [Value.slice.injEq] at hv
  obtain ⟨hv1, -, hv2⟩ := hv
  subst hv1
  subst hv2
  have HSET := Lib.hid hset
  clear hset
  have e1 : w4.cell? ⟨bh, oh + K * 3 + 1, none⟩ = some (.int .i64 ((hs2.getD K noH).2.1)) := hat 1 _ rfl
  clear hat
  clear HSET hfz
  obtain ⟨⟨p0, p1, p2, p3, p4, p5, p6, p7, p8, p9, p10⟩, -⟩ := B2.out.eleven
  have HAMV : Hid (∃ am, am = (hs2.getD K noH).2.1) := Lib.hid ⟨_, rfl⟩
  obtain ⟨am, ham⟩ := HAMV.out
  clear HAMV
  rw [← ham] at e1 HD m0 m1
  have HAE := Lib.hid ham
  clear ham
  by_cases c2 : am < n
  · replace HD : Hid (res = (acctNil, 7)) := Lib.hid (by rw [HD.out, if_pos c2])
    clear B2 HM
    obtain ⟨⟨r0, r1, r2, r3, r4, r5, r6, r7, r8, r9, r10⟩, g0, g1, g2, g3, g4, g5, g6, g7, g8, g9, g10⟩ := B1.out.eleven
    go_wp2
    refine bodyPost_ret (v := .tuple #[.agg #[.string ⟨#[]⟩, .int .i64 0, .int .i64 0, .int .i64 0, .int .i64 0, .slice none 0 0, .int .i64 0, .int .i64 0, .slice none 0 0, .slice none 0 0, .slice none 0 0], .int .i64 7]) (by simp [results, Tryz.results43, go_sem, r0, r1, r2, r3, r4, r5, r6, r7, r8, r9, r10]) rfl ?_
    have ht := (((((((((((Turned.refl w.heap.size (w.heap.size + 2) w4).set (b := w.heap.size + 1) 0 (.string ⟨#[]⟩) (by omega) (by omega)).set (b := w.heap.size + 1) 1 (.int .i64 0) (by omega) (by omega)).set (b := w.heap.size + 1) 2 (.int .i64 0) (by omega) (by omega)).set (b := w.heap.size + 1) 3 (.int .i64 0) (by omega) (by omega)).set (b := w.heap.size + 1) 4 (.int .i64 0) (by omega) (by omega)).set (b := w.heap.size + 1) 5 (.slice none 0 0) (by omega) (by omega)).set (b := w.heap.size + 1) 6 (.int .i64 0) (by omega) (by omega)).set (b := w.heap.size + 1) 7 (.int .i64 0) (by omega) (by omega)).set (b := w.heap.size + 1) 8 (.slice none 0 0) (by omega) (by omega)).set (b := w.heap.size + 1) 9 (.slice none 0 0) (by omega) (by omega)).set (b := w.heap.size + 1) 10 (.slice none 0 0) (by omega) (by omega)
    have hsz := ht.size
    rw [HD.out]
    exact ⟨_, _, _, _, rfl, acct_mine_ivl (p1 := w.heap.size) (p2 := w.heap.size) (holds_none _ _ _) (ring_mine_of (nums_none _ _ _ _) (nums_none _ _ _ _) (by intro b h; cases h)) (slots_none _ _ _) (by omega) (by omega) (by omega), HB.out.trans (ht.below (by omega) (by omega))⟩
  replace HD := Lib.hid (HD.out.trans (if_neg c2))
  have hwp : IntKind.i64.wrap (pos2 + n) = pos2 + n := by rw [IntKind.wrap_i64]; omega
  have hwm : IntKind.i64.wrap (am - n) = am - n := by rw [IntKind.wrap_i64]; omega
  clear p0 p1 p2 p3 p4 p5 p6 p7 p8 p9 p10
  obtain ⟨⟨p0, p1, p2, p3, p4, p5, p6, p7, p8, p9, p10⟩, f0, f1, f2, f3, f4, f5, f6, f7, f8, f9, f10⟩ := B2.out.eleven
  have hq := (B2.out.set 2 (.int .i64 (pos2 + n)))
  have ht := ((Turned.refl (w2.heap.size) (w2.heap.size + 1) w4).set (b := w2.heap.size) 2 (.int .i64 (pos2 + n)) (by omega) (by omega))
  go_upto_region 12 with fail
  obtain ⟨w5, hW⟩ : ∃ V, V = (w4.setCell ⟨w2.heap.size, 2, none⟩ (.int .i64 (pos2 + n))) := ⟨_, rfl⟩
  rw [← hW] at hq ht ⊢
  clear hW
  have z5 := ht.size
  replace B1 := Lib.hid (B1.out.under ht (by omega))
  replace HM := Lib.hid (HM.out.turned ht (by omega) (by omega))
  replace B2 : Hid (bk w5 (w2.heap.size) 29 [.string id2, .int .i64 lim2, .int .i64 (pos2 + n), .int .i64 most2, .int .i64 sum2, .slice (some ⟨bh, oh, none⟩) hs2.length cH2, .int .i64 sp2, .int .i64 hd2, .slice AC2 cs2.length cC2, .slice AS2 ss2.length cS2, .slice AL2 sl2.length cL2]) := Lib.hid hq
  replace HB : Hid (Below w.heap.size w w5) := Lib.hid (HB.out.trans (ht.below (B := w.heap.size) (by omega) (by omega)))
  clear hq ht p0 p1 p2 p3 p4 p5 p6 p7 p8 p9 p10 f0 f1 f2 f3 f4 f5 f6 f7 f8 f9 f10
  replace HM := Lib.hid (acct_setP HM.out (pos2 + n))
  simp only [setP, aId, aLim, aMost, aSum, aH, aR, aS] at HM
  clear e1
  obtain ⟨bh2, oh2, ch, hv, hch, hb3, hb4, hat, hfz, hset⟩ := acct_setAmt HM.out (k := K) hk
  simp only [aH] at hv hch hat hset
  simp only [Value.slice.injEq, Option.some.injEq, Addr.mk.injEq, and_true] at hv
  obtain ⟨⟨hv1, hv3⟩, -, hv2⟩ := hv
  subst hv1
  subst hv2
  subst hv3
  have HSET := Lib.hid hset
  clear hset hb3 hb4
  have e1 : w5.cell? ⟨bh, oh + K * 3 + 1, none⟩ = some (.int .i64 am) := by rw [HAE.out]; exact hat 1 _ rfl
  clear hat
  cases last
  rotate_left
  · replace HD := Lib.hid (HD.out.trans (if_pos rfl))
    obtain ⟨⟨p0, p1, p2, p3, p4, p5, p6, p7, p8, p9, p10⟩, -⟩ := B2.out.eleven
    go_upto_region 13 with fail
    clear p0 p1 p2 p3 p4 p5 p6 p7 p8 p9 p10
    clear HSET hfz e1 hwm HAE
    obtain ⟨xh, xc, xs, xl, hcs, r1, -, -, -⟩ := acct_rd HM.out.rd
    simp only [aCells, List.cons.injEq, and_true, true_and] at hcs
    obtain ⟨rfl, -, -, -⟩ := hcs
    simp only [aH] at r1
    have HDR := Lib.hid (specHoldDrop_any w2.heap.size _ hs2 s w5 (by omega) r1 (by omega))
    clear r1
    generalize dropL hs2 s = ls at HDR HD
    obtain ⟨⟨p0, p1, p2, p3, p4, p5, p6, p7, p8, p9, p10⟩, -⟩ := B2.out.eleven
    go_wp2_with fail
    refine (HDR.out).mono ?_
    rintro e w6 ⟨u, rfl, hu, hb⟩
    have z6 := hb.size
    replace B1 := Lib.hid (B1.out.below hb (by omega))
    replace HM := Lib.hid (HM.out.below hb (by omega))
    replace B2 := Lib.hid (B2.out.below hb (by omega))
    replace HB : Hid (Below w.heap.size w w6) := Lib.hid (HB.out.trans (hb.mono (by omega)))
    clear hb HDR p0 p1 p2 p3 p4 p5 p6 p7 p8 p9 p10
    obtain ⟨AN, cN, rfl, -⟩ := Rep.slice_form hu.rd
    have HU := Lib.hid hu
    clear hu
    obtain ⟨⟨p0, p1, p2, p3, p4, p5, p6, p7, p8, p9, p10⟩, f0, f1, f2, f3, f4, f5, f6, f7, f8, f9, f10⟩ := B2.out.eleven
    have hq := (B2.out.set 5 (.slice AN ls.length cN))
    have ht := ((Turned.refl (w2.heap.size) (w2.heap.size + 1) w6).set (b := w2.heap.size) 5 (.slice AN ls.length cN) (by omega) (by omega))
    go_upto_region 15 with fail
    obtain ⟨w7, hW⟩ : ∃ V, V = (w6.setCell ⟨w2.heap.size, 5, none⟩ (.slice AN ls.length cN)) := ⟨_, rfl⟩
    rw [← hW] at hq ht ⊢
    clear hW
    have z7 := ht.size
    replace B1 := Lib.hid (B1.out.under ht (by omega))
    replace HM := Lib.hid (HM.out.turned ht (by omega) (by omega))
    replace B2 : Hid (bk w7 (w2.heap.size) 29 [.string id2, .int .i64 lim2, .int .i64 (pos2 + n), .int .i64 most2, .int .i64 sum2, .slice AN ls.length cN, .int .i64 sp2, .int .i64 hd2, .slice AC2 cs2.length cC2, .slice AS2 ss2.length cS2, .slice AL2 sl2.length cL2]) := Lib.hid hq
    replace HU := Lib.hid (HU.out.turned ht (by omega) (by omega))
    replace HB : Hid (Below w.heap.size w w7) := Lib.hid (HB.out.trans (ht.below (B := w.heap.size) (by omega) (by omega)))
    clear hq ht p0 p1 p2 p3 p4 p5 p6 p7 p8 p9 p10 f0 f1 f2 f3 f4 f5 f6 f7 f8 f9 f10
    have HM2 := Lib.hid (swapH (l := ls) HM.out (p2 := w7.heap.size) (HU.out.mono (by omega) (by omega)) (by omega) (by omega))
    simp only [setH, aId, aLim, aPos, aMost, aSum, aR, aS] at HM2
    clear HM HU
    obtain ⟨⟨p0, p1, p2, p3, p4, p5, p6, p7, p8, p9, p10⟩, -⟩ := B2.out.eleven
    obtain ⟨⟨r0, r1, r2, r3, r4, r5, r6, r7, r8, r9, r10⟩, g0, g1, g2, g3, g4, g5, g6, g7, g8, g9, g10⟩ := B1.out.eleven
    go_wp2
    refine bodyPost_ret (v := .tuple #[.agg #[.string id2, .int .i64 lim2, .int .i64 (pos2 + n), .int .i64 most2, .int .i64 sum2, .slice AN ls.length cN, .int .i64 sp2, .int .i64 hd2, .slice AC2 cs2.length cC2, .slice AS2 ss2.length cS2, .slice AL2 sl2.length cL2], .int .i64 0]) (by simp [results, Tryz.results43, go_sem, r0, r1, r2, r3, r4, r5, r6, r7, r8, r9, r10]) rfl ?_
    have ht := (((((((((((Turned.refl w.heap.size (w.heap.size + 2) w7).set (b := w.heap.size + 1) 0 (.string id2) (by omega) (by omega)).set (b := w.heap.size + 1) 1 (.int .i64 lim2) (by omega) (by omega)).set (b := w.heap.size + 1) 2 (.int .i64 (pos2 + n)) (by omega) (by omega)).set (b := w.heap.size + 1) 3 (.int .i64 most2) (by omega) (by omega)).set (b := w.heap.size + 1) 4 (.int .i64 sum2) (by omega) (by omega)).set (b := w.heap.size + 1) 5 (.slice AN ls.length cN) (by omega) (by omega)).set (b := w.heap.size + 1) 6 (.int .i64 sp2) (by omega) (by omega)).set (b := w.heap.size + 1) 7 (.int .i64 hd2) (by omega) (by omega)).set (b := w.heap.size + 1) 8 (.slice AC2 cs2.length cC2) (by omega) (by omega)).set (b := w.heap.size + 1) 9 (.slice AS2 ss2.length cS2) (by omega) (by omega)).set (b := w.heap.size + 1) 10 (.slice AL2 sl2.length cL2) (by omega) (by omega)
    have hsz := ht.size
    rw [HD.out]
    exact ⟨_, _, _, _, rfl, (HM2.out.turned ht (.inr (by omega)) (by omega)).mono (by omega) (by omega), HB.out.trans (ht.below (by omega) (by omega))⟩
  by_cases c4 : n = am
  · replace HD := Lib.hid (HD.out.trans (if_pos (by rw [decide_eq_true c4]; rfl)))
    have c4i : (n == am) = true := by simpa using c4
    obtain ⟨⟨p0, p1, p2, p3, p4, p5, p6, p7, p8, p9, p10⟩, -⟩ := B2.out.eleven
    go_upto_region 13 with fail
    clear c4i p0 p1 p2 p3 p4 p5 p6 p7 p8 p9 p10
    clear c4
    clear HSET hfz e1 hwm HAE
    obtain ⟨xh, xc, xs, xl, hcs, r1, -, -, -⟩ := acct_rd HM.out.rd
    simp only [aCells, List.cons.injEq, and_true, true_and] at hcs
    obtain ⟨rfl, -, -, -⟩ := hcs
    simp only [aH] at r1
    have HDR := Lib.hid (specHoldDrop_any w2.heap.size _ hs2 s w5 (by omega) r1 (by omega))
    clear r1
    generalize dropL hs2 s = ls at HDR HD
    obtain ⟨⟨p0, p1, p2, p3, p4, p5, p6, p7, p8, p9, p10⟩, -⟩ := B2.out.eleven
    go_wp2_with fail
    refine (HDR.out).mono ?_
    rintro e w6 ⟨u, rfl, hu, hb⟩
    have z6 := hb.size
    replace B1 := Lib.hid (B1.out.below hb (by omega))
    replace HM := Lib.hid (HM.out.below hb (by omega))
    replace B2 := Lib.hid (B2.out.below hb (by omega))
    replace HB : Hid (Below w.heap.size w w6) := Lib.hid (HB.out.trans (hb.mono (by omega)))
    clear hb HDR p0 p1 p2 p3 p4 p5 p6 p7 p8 p9 p10
    obtain ⟨AN, cN, rfl, -⟩ := Rep.slice_form hu.rd
    have HU := Lib.hid hu
    clear hu
    obtain ⟨⟨p0, p1, p2, p3, p4, p5, p6, p7, p8, p9, p10⟩, f0, f1, f2, f3, f4, f5, f6, f7, f8, f9, f10⟩ := B2.out.eleven
    have hq := (B2.out.set 5 (.slice AN ls.length cN))
    have ht := ((Turned.refl (w2.heap.size) (w2.heap.size + 1) w6).set (b := w2.heap.size) 5 (.slice AN ls.length cN) (by omega) (by omega))
    go_upto_region 15 with fail
    obtain ⟨w7, hW⟩ : ∃ V, V = (w6.setCell ⟨w2.heap.size, 5, none⟩ (.slice AN ls.length cN)) := ⟨_, rfl⟩
    rw [← hW] at hq ht ⊢
    clear hW
    have z7 := ht.size
    replace B1 := Lib.hid (B1.out.under ht (by omega))
    replace HM := Lib.hid (HM.out.turned ht (by omega) (by omega))
    replace B2 : Hid (bk w7 (w2.heap.size) 29 [.string id2, .int .i64 lim2, .int .i64 (pos2 + n), .int .i64 most2, .int .i64 sum2, .slice AN ls.length cN, .int .i64 sp2, .int .i64 hd2, .slice AC2 cs2.length cC2, .slice AS2 ss2.length cS2, .slice AL2 sl2.length cL2]) := Lib.hid hq
    replace HU := Lib.hid (HU.out.turned ht (by omega) (by omega))
    replace HB : Hid (Below w.heap.size w w7) := Lib.hid (HB.out.trans (ht.below (B := w.heap.size) (by omega) (by omega)))
    clear hq ht p0 p1 p2 p3 p4 p5 p6 p7 p8 p9 p10 f0 f1 f2 f3 f4 f5 f6 f7 f8 f9 f10
    have HM2 := Lib.hid (swapH (l := ls) HM.out (p2 := w7.heap.size) (HU.out.mono (by omega) (by omega)) (by omega) (by omega))
    simp only [setH, aId, aLim, aPos, aMost, aSum, aR, aS] at HM2
    clear HM HU
    obtain ⟨⟨p0, p1, p2, p3, p4, p5, p6, p7, p8, p9, p10⟩, -⟩ := B2.out.eleven
    obtain ⟨⟨r0, r1, r2, r3, r4, r5, r6, r7, r8, r9, r10⟩, g0, g1, g2, g3, g4, g5, g6, g7, g8, g9, g10⟩ := B1.out.eleven
    go_wp2
    refine bodyPost_ret (v := .tuple #[.agg #[.string id2, .int .i64 lim2, .int .i64 (pos2 + n), .int .i64 most2, .int .i64 sum2, .slice AN ls.length cN, .int .i64 sp2, .int .i64 hd2, .slice AC2 cs2.length cC2, .slice AS2 ss2.length cS2, .slice AL2 sl2.length cL2], .int .i64 0]) (by simp [results, Tryz.results43, go_sem, r0, r1, r2, r3, r4, r5, r6, r7, r8, r9, r10]) rfl ?_
    have ht := (((((((((((Turned.refl w.heap.size (w.heap.size + 2) w7).set (b := w.heap.size + 1) 0 (.string id2) (by omega) (by omega)).set (b := w.heap.size + 1) 1 (.int .i64 lim2) (by omega) (by omega)).set (b := w.heap.size + 1) 2 (.int .i64 (pos2 + n)) (by omega) (by omega)).set (b := w.heap.size + 1) 3 (.int .i64 most2) (by omega) (by omega)).set (b := w.heap.size + 1) 4 (.int .i64 sum2) (by omega) (by omega)).set (b := w.heap.size + 1) 5 (.slice AN ls.length cN) (by omega) (by omega)).set (b := w.heap.size + 1) 6 (.int .i64 sp2) (by omega) (by omega)).set (b := w.heap.size + 1) 7 (.int .i64 hd2) (by omega) (by omega)).set (b := w.heap.size + 1) 8 (.slice AC2 cs2.length cC2) (by omega) (by omega)).set (b := w.heap.size + 1) 9 (.slice AS2 ss2.length cS2) (by omega) (by omega)).set (b := w.heap.size + 1) 10 (.slice AL2 sl2.length cL2) (by omega) (by omega)
    have hsz := ht.size
    rw [HD.out]
    exact ⟨_, _, _, _, rfl, (HM2.out.turned ht (.inr (by omega)) (by omega)).mono (by omega) (by omega), HB.out.trans (ht.below (by omega) (by omega))⟩
  replace HD := Lib.hid (HD.out.trans (if_neg (by rw [decide_eq_false c4]; simp)))
  have c4i : (n == am) = false := by simpa using c4
  obtain ⟨⟨p0, p1, p2, p3, p4, p5, p6, p7, p8, p9, p10⟩, -⟩ := B2.out.eleven
  go_upto_region 14 with fail
  go_region
  clear c4i e1 hfz p0 p1 p2 p3 p4 p5 p6 p7 p8 p9 p10
  obtain ⟨w6, hW⟩ : ∃ V, V = (w5.setCell ⟨bh, oh + K * 3 + 1, none⟩ (.int .i64 (am - n))).drew := ⟨_, rfl⟩
  have ht : Turned bh (bh + 1) w5 w6 := by rw [hW]; exact turned_drew ((Turned.refl bh (bh + 1) w5).set (b := bh) (oh + K * 3 + 1) _ (Nat.le_refl _) (by omega))
  have hmn : AcctR.mine w1.heap.size w2.heap.size w6 (aCells (id2, lim2, pos2 + n, most2, sum2, amtAt hs2 K (am - n), (sp2, hd2, cs2, ss2), sl2) (.slice (some ⟨bh, oh, none⟩) hs2.length cH2) (.slice AC2 cs2.length cC2) (.slice AS2 ss2.length cS2) (.slice AL2 sl2.length cL2)) (id2, lim2, pos2 + n, most2, sum2, amtAt hs2 K (am - n), (sp2, hd2, cs2, ss2), sl2) := by rw [hW]; exact HSET.out (am - n)
  rw [← hW]
  clear hW HSET
  have z6 := ht.size
  replace B1 := Lib.hid (B1.out.under ht (by omega))
  replace HM := Lib.hid hmn
  replace B2 := Lib.hid (B2.out.under ht (by omega))
  replace HB : Hid (Below w.heap.size w w6) := Lib.hid (HB.out.trans (ht.below (B := w.heap.size) (by omega) (by omega)))
  clear ht hmn
  obtain ⟨⟨p0, p1, p2, p3, p4, p5, p6, p7, p8, p9, p10⟩, -⟩ := B2.out.eleven
  obtain ⟨⟨r0, r1, r2, r3, r4, r5, r6, r7, r8, r9, r10⟩, g0, g1, g2, g3, g4, g5, g6, g7, g8, g9, g10⟩ := B1.out.eleven
  go_wp2
  refine bodyPost_ret (v := .tuple #[.agg #[.string id2, .int .i64 lim2, .int .i64 (pos2 + n), .int .i64 most2, .int .i64 sum2, .slice (some ⟨bh, oh, none⟩) hs2.length cH2, .int .i64 sp2, .int .i64 hd2, .slice AC2 cs2.length cC2, .slice AS2 ss2.length cS2, .slice AL2 sl2.length cL2], .int .i64 0]) (by simp [results, Tryz.results43, go_sem, r0, r1, r2, r3, r4, r5, r6, r7, r8, r9, r10]) rfl ?_
  have ht := (((((((((((Turned.refl w.heap.size (w.heap.size + 2) w6).set (b := w.heap.size + 1) 0 (.string id2) (by omega) (by omega)).set (b := w.heap.size + 1) 1 (.int .i64 lim2) (by omega) (by omega)).set (b := w.heap.size + 1) 2 (.int .i64 (pos2 + n)) (by omega) (by omega)).set (b := w.heap.size + 1) 3 (.int .i64 most2) (by omega) (by omega)).set (b := w.heap.size + 1) 4 (.int .i64 sum2) (by omega) (by omega)).set (b := w.heap.size + 1) 5 (.slice (some ⟨bh, oh, none⟩) hs2.length cH2) (by omega) (by omega)).set (b := w.heap.size + 1) 6 (.int .i64 sp2) (by omega) (by omega)).set (b := w.heap.size + 1) 7 (.int .i64 hd2) (by omega) (by omega)).set (b := w.heap.size + 1) 8 (.slice AC2 cs2.length cC2) (by omega) (by omega)).set (b := w.heap.size + 1) 9 (.slice AS2 ss2.length cS2) (by omega) (by omega)).set (b := w.heap.size + 1) 10 (.slice AL2 sl2.length cL2) (by omega) (by omega)
  have hsz := ht.size
  rw [HD.out]
  exact ⟨_, _, _, _, rfl, (HM.out.turned ht (.inr (by omega)) (by omega)).mono (by omega) (by omega), HB.out.trans (ht.below (by omega) (by omega))⟩
end Go.Proofs.YtnmijppppcgobaaGreatDoor
