/- Authorize of the reference; no conditions. -/
import Derived.Test.YtnmijppppcgobaaGreatDoorMrg10
import Derived.Test.YtnmijppppcgobaaGreatDoorMrg5
import Derived.Test.YtnmijppppcgobaaGreatDoorMrg4
set_option linter.unusedVariables false
namespace Go.Proofs.YtnmijppppcgobaaGreatDoor
open Go.ChangeShapes Go.WideShapes Go.ChangeAt Go.RowKit

set_option maxRecDepth 100000 in
theorem form_time {a : AcctD} {id : ByteArray} {now : Int} (h : formB a id now = true) : 0 ≤ now ∧ now ≤ 1000000000 := by
  unfold formB timeB inB at h
  simp only [Bool.and_eq_true, decide_eq_true_eq] at h
  exact h.2.1
set_option maxRecDepth 100000 in
theorem form_id {a : AcctD} {id : ByteArray} {now : Int} (h : formB a id now = true) : id.size ≤ 6 := by
  unfold formB idOk inB at h
  simp only [Bool.and_eq_true, decide_eq_true_eq] at h
  have := h.2.2.2
  omega
set_option maxRecDepth 100000 in
set_option maxHeartbeats 16000000 in
theorem specAuthorize_any (hi : Nat) (vh vc vs vl : Value) (a : AcctD) (s : ByteArray) (n ttl now : Int) (w : World) (hz : acctSmall 1048576 a) (hbig : acctBig a) (h : AcctR.rd hi w (aCells a vh vc vs vl) a) (hh : hi ≤ w.heap.size) (hsz : s.size ≤ maxLen) :
    Calls Tryz.prog 37 #[.agg #[.string (aId a), .int .i64 (aLim a), .int .i64 (aPos a), .int .i64 (aMost a), .int .i64 (aSum a), vh, .int .i64 (aR a).1, .int .i64 (aR a).2.1, vc, vs, vl], .string s, .int .i64 n, .int .i64 ttl, .int .i64 now] w (acctResC (authL a s n ttl now).1 (authL a s n ttl now).2 w) := by
  have HFO := Lib.hid (fun W (hW : Below w.heap.size w W) => specForm_any hi vh vc vs vl a s now W hz hbig hsz (Rep.below (R := AcctR) h hW hh) (Nat.le_trans hh hW.size))
  have HSW := Lib.hid (fun W (hW : Below w.heap.size w W) => specAcctSwept_any hi vh vc vs vl a now W hz hbig (Rep.below (R := AcctR) h hW hh) (Nat.le_trans hh hW.size))
  have HI1 := Lib.hid (fun W => inB_any n 1 9007199254740992 W)
  have HI2 := Lib.hid (fun W => inB_any ttl 1 9999 W)
  have HD : Hid (authL a s n ttl now = if formB a s now = false then (acctNil, 1) else if authIn n ttl now = false then (acctNil, 4) else authOn (acctSwept a now) s n ttl now) := Lib.hid rfl
  have HAI : Hid (authIn n ttl now = (inB n 1 9007199254740992 && (inB ttl 1 9999 && decide (now + ttl ≤ 1000000000)))) := Lib.hid rfl
  have HFW : Hid (formB a s now = true → acctFew (acctSwept a now) ∧ (0 ≤ now ∧ now ≤ 1000000000) ∧ s.size ≤ 6) := Lib.hid fun hf => ⟨few_swept (acctOk_few (form_ok hf)), form_time hf, form_id hf⟩
  have HTT : Hid (inB ttl 1 9999 = true → 1 ≤ ttl ∧ ttl ≤ 9999) := Lib.hid fun h1 => by unfold inB at h1; exact of_decide_eq_true h1
  obtain ⟨xh, xc, xs, xl, hcs, r1, r2, r3, r4⟩ := acct_rd h
  simp only [aCells, List.cons.injEq, and_true, true_and] at hcs
  obtain ⟨rfl, rfl, rfl, rfl⟩ := hcs
  obtain ⟨AH, cH, rfl, -⟩ := Rep.slice_form r1
  obtain ⟨AL, cL, rfl, -⟩ := Rep.slice_form r4
  obtain ⟨AC, cC, rfl, -⟩ := r2.form
  obtain ⟨AS, cS, rfl, -⟩ := r3.form
  clear h r1 r2 r3 r4 hz hbig
  generalize formB a s now = fo at HFO HD HFW
  generalize authIn n ttl now = ai at HD HAI
  generalize inB n 1 9007199254740992 = i1 at HI1 HAI
  generalize inB ttl 1 9999 = i2 at HI2 HAI HTT
  generalize authL a s n ttl now = res at HD ⊢
  generalize acctSwept a now = sw at HSW HD HFW
  obtain ⟨id, lim, pos, most, sum, hs, ⟨sp, hd, cs, ss⟩, sl⟩ := a
  simp only [aId, aLim, aPos, aMost, aSum, aH, aS] at HFO HSW
  go_enter Tryz.func37, Tryz.ntmps37
  go_upto_region 1 with fail
  obtain ⟨w0, hW⟩ : ∃ w0, w0 = ((w.alloc (.cells #[.string id, .int .i64 lim, .int .i64 pos, .int .i64 most, .int .i64 sum, .slice AH hs.length cH, .int .i64 sp, .int .i64 hd, .slice AC cs.length cC, .slice AS ss.length cS, .slice AL sl.length cL] 29)).alloc (.cells #[.string ⟨#[]⟩, .int .i64 0, .int .i64 0, .int .i64 0, .int .i64 0, .slice none 0 0, .int .i64 0, .int .i64 0, .slice none 0 0, .slice none 0 0, .slice none 0 0] 29)) := ⟨_, rfl⟩
  have b0 : bk w0 (w.heap.size) 29 [.string id, .int .i64 lim, .int .i64 pos, .int .i64 most, .int .i64 sum, .slice AH hs.length cH, .int .i64 sp, .int .i64 hd, .slice AC cs.length cC, .slice AS ss.length cS, .slice AL sl.length cL] := by rw [hW]; have h0 := bk.new (w) 29 [.string id, .int .i64 lim, .int .i64 pos, .int .i64 most, .int .i64 sum, .slice AH hs.length cH, .int .i64 sp, .int .i64 hd, .slice AC cs.length cC, .slice AS ss.length cS, .slice AL sl.length cL]; have h1 := h0.alloc (.cells #[.string ⟨#[]⟩, .int .i64 0, .int .i64 0, .int .i64 0, .int .i64 0, .slice none 0 0, .int .i64 0, .int .i64 0, .slice none 0 0, .slice none 0 0, .slice none 0 0] 29); simpa using h1
  have b1 : bk w0 (w.heap.size + 1) 29 [.string ⟨#[]⟩, .int .i64 0, .int .i64 0, .int .i64 0, .int .i64 0, .slice none 0 0, .int .i64 0, .int .i64 0, .slice none 0 0, .slice none 0 0, .slice none 0 0] := by rw [hW]; have h0 := bk.new ((w.alloc (.cells #[.string id, .int .i64 lim, .int .i64 pos, .int .i64 most, .int .i64 sum, .slice AH hs.length cH, .int .i64 sp, .int .i64 hd, .slice AC cs.length cC, .slice AS ss.length cS, .slice AL sl.length cL] 29))) 29 [.string ⟨#[]⟩, .int .i64 0, .int .i64 0, .int .i64 0, .int .i64 0, .slice none 0 0, .int .i64 0, .int .i64 0, .slice none 0 0, .slice none 0 0, .slice none 0 0]; have h1 := h0; simpa using h1
  have HB : Hid (Below w.heap.size w w0) := Lib.hid (by rw [hW]; exact (((Below.refl w.heap.size w).alloc (Nat.le_refl _) _).alloc (by simp <;> omega) _))
  have z0 : w.heap.size + 2 ≤ w0.heap.size := by rw [hW]; simp
  rw [← hW]
  clear hW
  have B0 := Lib.hid b0
  have B1 := Lib.hid b1
  clear b0 b1
  obtain ⟨⟨p0, p1, p2, p3, p4, p5, p6, p7, p8, p9, p10⟩, -⟩ := B0.out.eleven
  go_wp2_with fail
  refine (HFO.out w0 HB.out).mono ?_
  rintro e w1 ⟨rfl, hb⟩
  have z1 := hb.size
  replace B0 := Lib.hid (B0.out.below hb (by omega))
  replace B1 := Lib.hid (B1.out.below hb (by omega))
  replace HB : Hid (Below w.heap.size w w1) := Lib.hid (HB.out.trans (hb.mono (by omega)))
  clear hb HFO p0 p1 p2 p3 p4 p5 p6 p7 p8 p9 p10
  cases fo
  · replace HD : Hid (res = (acctNil, 1)) := Lib.hid (by rw [HD.out]; rfl)
    clear B0 HSW HFW HI1 HI2 HAI HTT
    obtain ⟨⟨r0, r1, r2, r3, r4, r5, r6, r7, r8, r9, r10⟩, g0, g1, g2, g3, g4, g5, g6, g7, g8, g9, g10⟩ := B1.out.eleven
    go_wp2
    refine bodyPost_ret (v := .tuple #[.agg #[.string ⟨#[]⟩, .int .i64 0, .int .i64 0, .int .i64 0, .int .i64 0, .slice none 0 0, .int .i64 0, .int .i64 0, .slice none 0 0, .slice none 0 0, .slice none 0 0], .int .i64 1]) (by simp [results, Tryz.results37, go_sem, r0, r1, r2, r3, r4, r5, r6, r7, r8, r9, r10]) rfl ?_
    have ht := (((((((((((Turned.refl w.heap.size (w.heap.size + 2) w1).set (b := w.heap.size + 1) 0 (.string ⟨#[]⟩) (by omega) (by omega)).set (b := w.heap.size + 1) 1 (.int .i64 0) (by omega) (by omega)).set (b := w.heap.size + 1) 2 (.int .i64 0) (by omega) (by omega)).set (b := w.heap.size + 1) 3 (.int .i64 0) (by omega) (by omega)).set (b := w.heap.size + 1) 4 (.int .i64 0) (by omega) (by omega)).set (b := w.heap.size + 1) 5 (.slice none 0 0) (by omega) (by omega)).set (b := w.heap.size + 1) 6 (.int .i64 0) (by omega) (by omega)).set (b := w.heap.size + 1) 7 (.int .i64 0) (by omega) (by omega)).set (b := w.heap.size + 1) 8 (.slice none 0 0) (by omega) (by omega)).set (b := w.heap.size + 1) 9 (.slice none 0 0) (by omega) (by omega)).set (b := w.heap.size + 1) 10 (.slice none 0 0) (by omega) (by omega)
    have hsz := ht.size
    rw [HD.out]
    exact ⟨_, _, _, _, rfl, acct_mine_ivl (p1 := w.heap.size) (p2 := w.heap.size) (holds_none _ _ _) (ring_mine_of (nums_none _ _ _ _) (nums_none _ _ _ _) (by intro b h; cases h)) (slots_none _ _ _) (by omega) (by omega) (by omega), HB.out.trans (ht.below (by omega) (by omega))⟩
  obtain ⟨hfw, ⟨n0, n1⟩, hs6⟩ := HFW.out rfl
  clear HFW
  replace HD : Hid (res = if ai = false then (acctNil, 4) else authOn sw s n ttl now) := Lib.hid (by rw [HD.out]; rfl)
  go_wp2_with fail
  refine (HI1.out w1).mono ?_
  rintro e wx ⟨rfl, rfl⟩
  cases i1
  · replace HD : Hid (res = (acctNil, 4)) := Lib.hid (by rw [HD.out, HAI.out]; rfl)
    clear B0 HSW HI1 HI2 HTT
    obtain ⟨⟨r0, r1, r2, r3, r4, r5, r6, r7, r8, r9, r10⟩, g0, g1, g2, g3, g4, g5, g6, g7, g8, g9, g10⟩ := B1.out.eleven
    go_wp2
    refine bodyPost_ret (v := .tuple #[.agg #[.string ⟨#[]⟩, .int .i64 0, .int .i64 0, .int .i64 0, .int .i64 0, .slice none 0 0, .int .i64 0, .int .i64 0, .slice none 0 0, .slice none 0 0, .slice none 0 0], .int .i64 4]) (by simp [results, Tryz.results37, go_sem, r0, r1, r2, r3, r4, r5, r6, r7, r8, r9, r10]) rfl ?_
    have ht := (((((((((((Turned.refl w.heap.size (w.heap.size + 2) w1).set (b := w.heap.size + 1) 0 (.string ⟨#[]⟩) (by omega) (by omega)).set (b := w.heap.size + 1) 1 (.int .i64 0) (by omega) (by omega)).set (b := w.heap.size + 1) 2 (.int .i64 0) (by omega) (by omega)).set (b := w.heap.size + 1) 3 (.int .i64 0) (by omega) (by omega)).set (b := w.heap.size + 1) 4 (.int .i64 0) (by omega) (by omega)).set (b := w.heap.size + 1) 5 (.slice none 0 0) (by omega) (by omega)).set (b := w.heap.size + 1) 6 (.int .i64 0) (by omega) (by omega)).set (b := w.heap.size + 1) 7 (.int .i64 0) (by omega) (by omega)).set (b := w.heap.size + 1) 8 (.slice none 0 0) (by omega) (by omega)).set (b := w.heap.size + 1) 9 (.slice none 0 0) (by omega) (by omega)).set (b := w.heap.size + 1) 10 (.slice none 0 0) (by omega) (by omega)
    have hsz := ht.size
    rw [HD.out]
    exact ⟨_, _, _, _, rfl, acct_mine_ivl (p1 := w.heap.size) (p2 := w.heap.size) (holds_none _ _ _) (ring_mine_of (nums_none _ _ _ _) (nums_none _ _ _ _) (by intro b h; cases h)) (slots_none _ _ _) (by omega) (by omega) (by omega), HB.out.trans (ht.below (by omega) (by omega))⟩
  go_wp2_with fail
  refine (HI2.out w1).mono ?_
  rintro e wx ⟨rfl, rfl⟩
  cases i2
  · replace HD : Hid (res = (acctNil, 4)) := Lib.hid (by rw [HD.out, HAI.out]; rfl)
    clear B0 HSW HI1 HI2 HTT
    obtain ⟨⟨r0, r1, r2, r3, r4, r5, r6, r7, r8, r9, r10⟩, g0, g1, g2, g3, g4, g5, g6, g7, g8, g9, g10⟩ := B1.out.eleven
    go_wp2
    refine bodyPost_ret (v := .tuple #[.agg #[.string ⟨#[]⟩, .int .i64 0, .int .i64 0, .int .i64 0, .int .i64 0, .slice none 0 0, .int .i64 0, .int .i64 0, .slice none 0 0, .slice none 0 0, .slice none 0 0], .int .i64 4]) (by simp [results, Tryz.results37, go_sem, r0, r1, r2, r3, r4, r5, r6, r7, r8, r9, r10]) rfl ?_
    have ht := (((((((((((Turned.refl w.heap.size (w.heap.size + 2) w1).set (b := w.heap.size + 1) 0 (.string ⟨#[]⟩) (by omega) (by omega)).set (b := w.heap.size + 1) 1 (.int .i64 0) (by omega) (by omega)).set (b := w.heap.size + 1) 2 (.int .i64 0) (by omega) (by omega)).set (b := w.heap.size + 1) 3 (.int .i64 0) (by omega) (by omega)).set (b := w.heap.size + 1) 4 (.int .i64 0) (by omega) (by omega)).set (b := w.heap.size + 1) 5 (.slice none 0 0) (by omega) (by omega)).set (b := w.heap.size + 1) 6 (.int .i64 0) (by omega) (by omega)).set (b := w.heap.size + 1) 7 (.int .i64 0) (by omega) (by omega)).set (b := w.heap.size + 1) 8 (.slice none 0 0) (by omega) (by omega)).set (b := w.heap.size + 1) 9 (.slice none 0 0) (by omega) (by omega)).set (b := w.heap.size + 1) 10 (.slice none 0 0) (by omega) (by omega)
    have hsz := ht.size
    rw [HD.out]
    exact ⟨_, _, _, _, rfl, acct_mine_ivl (p1 := w.heap.size) (p2 := w.heap.size) (holds_none _ _ _) (ring_mine_of (nums_none _ _ _ _) (nums_none _ _ _ _) (by intro b h; cases h)) (slots_none _ _ _) (by omega) (by omega) (by omega), HB.out.trans (ht.below (by omega) (by omega))⟩
  obtain ⟨t0, t1⟩ := HTT.out rfl
  clear HTT HI1 HI2
  have hwr : IntKind.i64.wrap (now + ttl) = now + ttl := by rw [IntKind.wrap_i64]; omega
  by_cases hle : ¬ (now + ttl ≤ 1000000000)
  · have c0 : 1000000000 < now + ttl := by omega
    replace HD : Hid (res = (acctNil, 4)) := Lib.hid (by rw [HD.out, HAI.out, decide_eq_false hle]; rfl)
    clear B0 HSW
    obtain ⟨⟨r0, r1, r2, r3, r4, r5, r6, r7, r8, r9, r10⟩, g0, g1, g2, g3, g4, g5, g6, g7, g8, g9, g10⟩ := B1.out.eleven
    go_wp2
    refine bodyPost_ret (v := .tuple #[.agg #[.string ⟨#[]⟩, .int .i64 0, .int .i64 0, .int .i64 0, .int .i64 0, .slice none 0 0, .int .i64 0, .int .i64 0, .slice none 0 0, .slice none 0 0, .slice none 0 0], .int .i64 4]) (by simp [results, Tryz.results37, go_sem, r0, r1, r2, r3, r4, r5, r6, r7, r8, r9, r10]) rfl ?_
    have ht := (((((((((((Turned.refl w.heap.size (w.heap.size + 2) w1).set (b := w.heap.size + 1) 0 (.string ⟨#[]⟩) (by omega) (by omega)).set (b := w.heap.size + 1) 1 (.int .i64 0) (by omega) (by omega)).set (b := w.heap.size + 1) 2 (.int .i64 0) (by omega) (by omega)).set (b := w.heap.size + 1) 3 (.int .i64 0) (by omega) (by omega)).set (b := w.heap.size + 1) 4 (.int .i64 0) (by omega) (by omega)).set (b := w.heap.size + 1) 5 (.slice none 0 0) (by omega) (by omega)).set (b := w.heap.size + 1) 6 (.int .i64 0) (by omega) (by omega)).set (b := w.heap.size + 1) 7 (.int .i64 0) (by omega) (by omega)).set (b := w.heap.size + 1) 8 (.slice none 0 0) (by omega) (by omega)).set (b := w.heap.size + 1) 9 (.slice none 0 0) (by omega) (by omega)).set (b := w.heap.size + 1) 10 (.slice none 0 0) (by omega) (by omega)
    have hsz := ht.size
    rw [HD.out]
    exact ⟨_, _, _, _, rfl, acct_mine_ivl (p1 := w.heap.size) (p2 := w.heap.size) (holds_none _ _ _) (ring_mine_of (nums_none _ _ _ _) (nums_none _ _ _ _) (by intro b h; cases h)) (slots_none _ _ _) (by omega) (by omega) (by omega), HB.out.trans (ht.below (by omega) (by omega))⟩
  have hle : now + ttl ≤ 1000000000 := by omega
  have c0 : ¬ (1000000000 < now + ttl) := by omega
  replace HD : Hid (res = authOn sw s n ttl now) := Lib.hid (by rw [HD.out, HAI.out, decide_eq_true hle]; rfl)
  clear HAI
  obtain ⟨⟨p0, p1, p2, p3, p4, p5, p6, p7, p8, p9, p10⟩, -⟩ := B0.out.eleven
  go_wp2_with fail
  refine (HSW.out w1 HB.out).mono ?_
  rintro e w2 ⟨vh2, vc2, vs2, vl2, rfl, hm2, hb⟩
  have z2 := hb.size
  replace B0 := Lib.hid (B0.out.below hb (by omega))
  replace B1 := Lib.hid (B1.out.below hb (by omega))
  replace HB : Hid (Below w.heap.size w w2) := Lib.hid (HB.out.trans (hb.mono (by omega)))
  clear hb HSW p0 p1 p2 p3 p4 p5 p6 p7 p8 p9 p10
  clear B0
  obtain ⟨xh, xc, xs, xl, hcs, r1, r2, r3, r4⟩ := acct_rd hm2.rd
  simp only [aCells, List.cons.injEq, and_true, true_and] at hcs
  obtain ⟨rfl, rfl, rfl, rfl⟩ := hcs
  obtain ⟨AH2, cH2, rfl, -⟩ := Rep.slice_form r1
  obtain ⟨AL2, cL2, rfl, -⟩ := Rep.slice_form r4
  obtain ⟨AC2, cC2, rfl, -⟩ := r2.form
  obtain ⟨AS2, cS2, rfl, -⟩ := r3.form
  obtain ⟨id2, lim2, pos2, most2, sum2, hs2, ⟨sp2, hd2, cs2, ss2⟩, sl2⟩ := sw
  simp only [aId, aLim, aPos, aMost, aSum, aH, aS] at hm2 ⊢
  clear r1 r2 r3 r4
  have hl4 : hs2.length ≤ 4 := hfw.h
  have HFW := Lib.hid hfw
  clear hfw
  have HM := Lib.hid hm2
  clear hm2
  go_upto_region 6 with fail
  obtain ⟨w3, hW⟩ : ∃ V, V = w2.alloc (.cells #[.string id2, .int .i64 lim2, .int .i64 pos2, .int .i64 most2, .int .i64 sum2, .slice AH2 hs2.length cH2, .int .i64 sp2, .int .i64 hd2, .slice AC2 cs2.length cC2, .slice AS2 ss2.length cS2, .slice AL2 sl2.length cL2] 29) := ⟨_, rfl⟩
  have bx : bk w3 w2.heap.size 29 [.string id2, .int .i64 lim2, .int .i64 pos2, .int .i64 most2, .int .i64 sum2, .slice AH2 hs2.length cH2, .int .i64 sp2, .int .i64 hd2, .slice AC2 cs2.length cC2, .slice AS2 ss2.length cS2, .slice AL2 sl2.length cL2] := by rw [hW]; exact bk.new w2 _ _
  have hb : Below w2.heap.size w2 w3 := by rw [hW]; exact (Below.refl _ _).alloc (Nat.le_refl _) _
  rw [← hW]
  clear hW
  have z3 := bx.lt
  have y3 := hb.size
  replace B1 := Lib.hid (B1.out.below hb (by omega))
  replace HM := Lib.hid (HM.out.below hb (by omega))
  replace HB : Hid (Below w.heap.size w w3) := Lib.hid (HB.out.trans (hb.mono (by omega)))
  have B2 := Lib.hid bx
  clear hb bx
  obtain ⟨xh, xc, xs, xl, hcs, r1, r2, r3, -⟩ := acct_rd HM.out.rd
  simp only [aCells, List.cons.injEq, and_true, true_and] at hcs
  obtain ⟨rfl, rfl, rfl, -⟩ := hcs
  have HRD : Hid (HoldsR.rd w2.heap.size w3 [.slice AH2 hs2.length cH2] hs2) := Lib.hid r1
  have HHA := Lib.hid (specHoldAt_any w2.heap.size _ hs2 s w3 (by omega) r1 (by omega))
  clear r1 r2 r3
  have HON : Hid (authOn (id2, lim2, pos2, most2, sum2, hs2, (sp2, hd2, cs2, ss2), sl2) s n ttl now = if 0 ≤ findH hs2 s then (acctNil, 6) else if hs2.length = 4 then (acctNil, 10) else if fitsV (id2, lim2, pos2, most2, sum2, hs2, (sp2, hd2, cs2, ss2), sl2) n now ≠ 0 then (acctNil, fitsV (id2, lim2, pos2, most2, sum2, hs2, (sp2, hd2, cs2, ss2), sl2) n now) else ((id2, lim2, pos2, most2, sum2, (putH hs2 (s, n, now + ttl)).1, ringAdd (sp2, hd2, cs2, ss2) now n, sl2), 0)) := Lib.hid rfl
  rw [HON.out] at HD
  clear HON
  generalize findH hs2 s = at_ at HHA HD
  obtain ⟨⟨p0, p1, p2, p3, p4, p5, p6, p7, p8, p9, p10⟩, -⟩ := B2.out.eleven
  go_wp2_with fail
  refine (HHA.out).mono ?_
  rintro e w4 ⟨rfl, hb⟩
  have z4 := hb.size
  replace B1 := Lib.hid (B1.out.below hb (by omega))
  replace HM := Lib.hid (HM.out.below hb (by omega))
  replace B2 := Lib.hid (B2.out.below hb (by omega))
  replace HRD := Lib.hid (Rep.below (R := HoldsR) HRD.out hb (by omega))
  replace HB : Hid (Below w.heap.size w w4) := Lib.hid (HB.out.trans (hb.mono (by omega)))
  clear hb HHA p0 p1 p2 p3 p4 p5 p6 p7 p8 p9 p10
  by_cases c1 : 0 ≤ at_
  · replace HD : Hid (res = (acctNil, 6)) := Lib.hid (by rw [HD.out, if_pos c1])
    clear B2 HM HRD
    obtain ⟨⟨r0, r1, r2, r3, r4, r5, r6, r7, r8, r9, r10⟩, g0, g1, g2, g3, g4, g5, g6, g7, g8, g9, g10⟩ := B1.out.eleven
    go_wp2
    refine bodyPost_ret (v := .tuple #[.agg #[.string ⟨#[]⟩, .int .i64 0, .int .i64 0, .int .i64 0, .int .i64 0, .slice none 0 0, .int .i64 0, .int .i64 0, .slice none 0 0, .slice none 0 0, .slice none 0 0], .int .i64 6]) (by simp [results, Tryz.results37, go_sem, r0, r1, r2, r3, r4, r5, r6, r7, r8, r9, r10]) rfl ?_
    have ht := (((((((((((Turned.refl w.heap.size (w.heap.size + 2) w4).set (b := w.heap.size + 1) 0 (.string ⟨#[]⟩) (by omega) (by omega)).set (b := w.heap.size + 1) 1 (.int .i64 0) (by omega) (by omega)).set (b := w.heap.size + 1) 2 (.int .i64 0) (by omega) (by omega)).set (b := w.heap.size + 1) 3 (.int .i64 0) (by omega) (by omega)).set (b := w.heap.size + 1) 4 (.int .i64 0) (by omega) (by omega)).set (b := w.heap.size + 1) 5 (.slice none 0 0) (by omega) (by omega)).set (b := w.heap.size + 1) 6 (.int .i64 0) (by omega) (by omega)).set (b := w.heap.size + 1) 7 (.int .i64 0) (by omega) (by omega)).set (b := w.heap.size + 1) 8 (.slice none 0 0) (by omega) (by omega)).set (b := w.heap.size + 1) 9 (.slice none 0 0) (by omega) (by omega)).set (b := w.heap.size + 1) 10 (.slice none 0 0) (by omega) (by omega)
    have hsz := ht.size
    rw [HD.out]
    exact ⟨_, _, _, _, rfl, acct_mine_ivl (p1 := w.heap.size) (p2 := w.heap.size) (holds_none _ _ _) (ring_mine_of (nums_none _ _ _ _) (nums_none _ _ _ _) (by intro b h; cases h)) (slots_none _ _ _) (by omega) (by omega) (by omega), HB.out.trans (ht.below (by omega) (by omega))⟩
  have c1i : ¬ (at_ ≥ 0) := c1
  replace HD := Lib.hid (HD.out.trans (if_neg c1))
  obtain ⟨⟨p0, p1, p2, p3, p4, p5, p6, p7, p8, p9, p10⟩, -⟩ := B2.out.eleven
  by_cases c2 : hs2.length = 4
  · have c2i : ((hs2.length : Int) == 4) = true := by simp; omega
    replace HD : Hid (res = (acctNil, 10)) := Lib.hid (by rw [HD.out, if_pos c2])
    clear HM HRD
    obtain ⟨⟨r0, r1, r2, r3, r4, r5, r6, r7, r8, r9, r10⟩, g0, g1, g2, g3, g4, g5, g6, g7, g8, g9, g10⟩ := B1.out.eleven
    go_wp2
    refine bodyPost_ret (v := .tuple #[.agg #[.string ⟨#[]⟩, .int .i64 0, .int .i64 0, .int .i64 0, .int .i64 0, .slice none 0 0, .int .i64 0, .int .i64 0, .slice none 0 0, .slice none 0 0, .slice none 0 0], .int .i64 10]) (by simp [results, Tryz.results37, go_sem, r0, r1, r2, r3, r4, r5, r6, r7, r8, r9, r10]) rfl ?_
    have ht := (((((((((((Turned.refl w.heap.size (w.heap.size + 2) w4).set (b := w.heap.size + 1) 0 (.string ⟨#[]⟩) (by omega) (by omega)).set (b := w.heap.size + 1) 1 (.int .i64 0) (by omega) (by omega)).set (b := w.heap.size + 1) 2 (.int .i64 0) (by omega) (by omega)).set (b := w.heap.size + 1) 3 (.int .i64 0) (by omega) (by omega)).set (b := w.heap.size + 1) 4 (.int .i64 0) (by omega) (by omega)).set (b := w.heap.size + 1) 5 (.slice none 0 0) (by omega) (by omega)).set (b := w.heap.size + 1) 6 (.int .i64 0) (by omega) (by omega)).set (b := w.heap.size + 1) 7 (.int .i64 0) (by omega) (by omega)).set (b := w.heap.size + 1) 8 (.slice none 0 0) (by omega) (by omega)).set (b := w.heap.size + 1) 9 (.slice none 0 0) (by omega) (by omega)).set (b := w.heap.size + 1) 10 (.slice none 0 0) (by omega) (by omega)
    have hsz := ht.size
    rw [HD.out]
    exact ⟨_, _, _, _, rfl, acct_mine_ivl (p1 := w.heap.size) (p2 := w.heap.size) (holds_none _ _ _) (ring_mine_of (nums_none _ _ _ _) (nums_none _ _ _ _) (by intro b h; cases h)) (slots_none _ _ _) (by omega) (by omega) (by omega), HB.out.trans (ht.below (by omega) (by omega))⟩
  have c2i : ((hs2.length : Int) == 4) = false := by simp; omega
  replace HD := Lib.hid (HD.out.trans (if_neg c2))
  have HFT := Lib.hid (specFits_any w2.heap.size _ _ _ _ (id2, lim2, pos2, most2, sum2, hs2, (sp2, hd2, cs2, ss2), sl2) n now w4 (few_small HFW.out) (few_big HFW.out) HM.out.rd (by omega))
  simp only [aId, aLim, aPos, aMost, aSum] at HFT
  generalize fitsV (id2, lim2, pos2, most2, sum2, hs2, (sp2, hd2, cs2, ss2), sl2) n now = fv at HFT HD
  go_wp2_with fail
  refine (HFT.out).mono ?_
  rintro e w5 ⟨rfl, hb⟩
  have z5 := hb.size
  replace B1 := Lib.hid (B1.out.below hb (by omega))
  replace HM := Lib.hid (HM.out.below hb (by omega))
  replace B2 := Lib.hid (B2.out.below hb (by omega))
  replace HRD := Lib.hid (Rep.below (R := HoldsR) HRD.out hb (by omega))
  replace HB : Hid (Below w.heap.size w w5) := Lib.hid (HB.out.trans (hb.mono (by omega)))
  clear hb HFT p0 p1 p2 p3 p4 p5 p6 p7 p8 p9 p10
  by_cases c3 : fv ≠ 0
  · have c3i : (fv != 0) = true := by simpa using c3
    replace HD : Hid (res = (acctNil, fv)) := Lib.hid (by rw [HD.out, if_pos c3])
    clear B2 HM HRD
    obtain ⟨⟨r0, r1, r2, r3, r4, r5, r6, r7, r8, r9, r10⟩, g0, g1, g2, g3, g4, g5, g6, g7, g8, g9, g10⟩ := B1.out.eleven
    go_wp2
    refine bodyPost_ret (v := .tuple #[.agg #[.string ⟨#[]⟩, .int .i64 0, .int .i64 0, .int .i64 0, .int .i64 0, .slice none 0 0, .int .i64 0, .int .i64 0, .slice none 0 0, .slice none 0 0, .slice none 0 0], .int .i64 fv]) (by simp [results, Tryz.results37, go_sem, r0, r1, r2, r3, r4, r5, r6, r7, r8, r9, r10]) rfl ?_
    have ht := (((((((((((Turned.refl w.heap.size (w.heap.size + 2) w5).set (b := w.heap.size + 1) 0 (.string ⟨#[]⟩) (by omega) (by omega)).set (b := w.heap.size + 1) 1 (.int .i64 0) (by omega) (by omega)).set (b := w.heap.size + 1) 2 (.int .i64 0) (by omega) (by omega)).set (b := w.heap.size + 1) 3 (.int .i64 0) (by omega) (by omega)).set (b := w.heap.size + 1) 4 (.int .i64 0) (by omega) (by omega)).set (b := w.heap.size + 1) 5 (.slice none 0 0) (by omega) (by omega)).set (b := w.heap.size + 1) 6 (.int .i64 0) (by omega) (by omega)).set (b := w.heap.size + 1) 7 (.int .i64 0) (by omega) (by omega)).set (b := w.heap.size + 1) 8 (.slice none 0 0) (by omega) (by omega)).set (b := w.heap.size + 1) 9 (.slice none 0 0) (by omega) (by omega)).set (b := w.heap.size + 1) 10 (.slice none 0 0) (by omega) (by omega)
    have hsz := ht.size
    rw [HD.out]
    exact ⟨_, _, _, _, rfl, acct_mine_ivl (p1 := w.heap.size) (p2 := w.heap.size) (holds_none _ _ _) (ring_mine_of (nums_none _ _ _ _) (nums_none _ _ _ _) (by intro b h; cases h)) (slots_none _ _ _) (by omega) (by omega) (by omega), HB.out.trans (ht.below (by omega) (by omega))⟩
  have c3i : (fv != 0) = false := by simpa using c3
  replace HD := Lib.hid (HD.out.trans (if_neg c3))
  have HPU := Lib.hid (specHoldPut_any w2.heap.size _ hs2 (s, n, now + ttl) w5 (by omega) (fun x hx => Nat.le_trans (HFW.out.hi x hx) (by unfold maxLen; omega)) hsz HRD.out (by omega))
  generalize (putH hs2 (s, n, now + ttl)).2 = pok at HPU
  generalize (putH hs2 (s, n, now + ttl)).1 = ls at HPU HD
  obtain ⟨⟨p0, p1, p2, p3, p4, p5, p6, p7, p8, p9, p10⟩, -⟩ := B2.out.eleven
  go_wp2_with fail
  refine (HPU.out).mono ?_
  rintro e w6 ⟨u, rfl, hu, hb⟩
  have z6 := hb.size
  replace B1 := Lib.hid (B1.out.below hb (by omega))
  replace HM := Lib.hid (HM.out.below hb (by omega))
  replace B2 := Lib.hid (B2.out.below hb (by omega))
  replace HRD := Lib.hid (Rep.below (R := HoldsR) HRD.out hb (by omega))
  replace HB : Hid (Below w.heap.size w w6) := Lib.hid (HB.out.trans (hb.mono (by omega)))
  clear hb HPU p0 p1 p2 p3 p4 p5 p6 p7 p8 p9 p10
  clear HRD
  obtain ⟨AN, cN, rfl, -⟩ := Rep.slice_form hu.rd
  have HU := Lib.hid hu
  clear hu
  obtain ⟨⟨p0, p1, p2, p3, p4, p5, p6, p7, p8, p9, p10⟩, f0, f1, f2, f3, f4, f5, f6, f7, f8, f9, f10⟩ := B2.out.eleven
  have hq := (B2.out.set 5 (.slice AN ls.length cN))
  have ht := ((Turned.refl (w2.heap.size) (w2.heap.size + 1) w6).set (b := w2.heap.size) 5 (.slice AN ls.length cN) (by omega) (by omega))
  go_upto_region 14 with fail
  obtain ⟨w7, hW⟩ : ∃ V, V = (w6.setCell ⟨w2.heap.size, 5, none⟩ (.slice AN ls.length cN)) := ⟨_, rfl⟩
  rw [← hW] at hq ht ⊢
  clear hW
  have z7 := ht.size
  replace B1 := Lib.hid (B1.out.under ht (by omega))
  replace HM := Lib.hid (HM.out.turned ht (by omega) (by omega))
  replace B2 : Hid (bk w7 (w2.heap.size) 29 [.string id2, .int .i64 lim2, .int .i64 pos2, .int .i64 most2, .int .i64 sum2, .slice AN ls.length cN, .int .i64 sp2, .int .i64 hd2, .slice AC2 cs2.length cC2, .slice AS2 ss2.length cS2, .slice AL2 sl2.length cL2]) := Lib.hid hq
  replace HU := Lib.hid (HU.out.turned ht (by omega) (by omega))
  replace HB : Hid (Below w.heap.size w w7) := Lib.hid (HB.out.trans (ht.below (B := w.heap.size) (by omega) (by omega)))
  clear hq ht p0 p1 p2 p3 p4 p5 p6 p7 p8 p9 p10 f0 f1 f2 f3 f4 f5 f6 f7 f8 f9 f10
  obtain ⟨xh, xc, xs, xl, hcs, -, r2, r3, -⟩ := acct_rd HM.out.rd
  simp only [aCells, List.cons.injEq, and_true, true_and] at hcs
  obtain ⟨-, rfl, rfl, -⟩ := hcs
  have HRA := Lib.hid (specRingAdd_any w2.heap.size _ _ (sp2, hd2, cs2, ss2) now n w7 r2 r3 (by omega) (Nat.le_trans HFW.out.c (by omega)) (Nat.le_trans HFW.out.s (by omega)))
  simp only at HRA
  clear r2 r3
  obtain ⟨⟨sp3, hd3, cs3, ss3⟩, hr3⟩ : ∃ r, r = ringAdd (sp2, hd2, cs2, ss2) now n := ⟨_, rfl⟩
  rw [← hr3] at HRA HD
  clear hr3
  obtain ⟨⟨p0, p1, p2, p3, p4, p5, p6, p7, p8, p9, p10⟩, -⟩ := B2.out.eleven
  go_wp2_with fail
  refine (HRA.out).mono ?_
  rintro e w8 ⟨vc3, vs3, rfl, hr, hb⟩
  have z8 := hb.size
  replace B1 := Lib.hid (B1.out.below hb (by omega))
  replace HM := Lib.hid (HM.out.below hb (by omega))
  replace B2 := Lib.hid (B2.out.below hb (by omega))
  replace HU := Lib.hid (HU.out.below hb (by omega))
  replace HB : Hid (Below w.heap.size w w8) := Lib.hid (HB.out.trans (hb.mono (by omega)))
  clear hb HRA p0 p1 p2 p3 p4 p5 p6 p7 p8 p9 p10
  obtain ⟨xc, xs, hcs, q2, q3⟩ := ring_rd hr.rd
  simp only [List.cons.injEq, and_true, true_and] at hcs
  obtain ⟨rfl, rfl⟩ := hcs
  obtain ⟨AC3, cC3, rfl, -⟩ := q2.form
  obtain ⟨AS3, cS3, rfl, -⟩ := q3.form
  simp only at hr ⊢
  have HR := Lib.hid hr
  clear hr q2 q3
  obtain ⟨⟨p0, p1, p2, p3, p4, p5, p6, p7, p8, p9, p10⟩, f0, f1, f2, f3, f4, f5, f6, f7, f8, f9, f10⟩ := B2.out.eleven
  have hq := ((((B2.out.set 6 (.int .i64 sp3)).set 7 (.int .i64 hd3)).set 8 (.slice AC3 cs3.length cC3)).set 9 (.slice AS3 ss3.length cS3))
  have ht := (((((Turned.refl (w2.heap.size) (w2.heap.size + 1) w8).set (b := w2.heap.size) 6 (.int .i64 sp3) (by omega) (by omega)).set (b := w2.heap.size) 7 (.int .i64 hd3) (by omega) (by omega)).set (b := w2.heap.size) 8 (.slice AC3 cs3.length cC3) (by omega) (by omega)).set (b := w2.heap.size) 9 (.slice AS3 ss3.length cS3) (by omega) (by omega))
  go_upto_region 15 with fail
  obtain ⟨w9, hW⟩ : ∃ V, V = ((((w8.setCell ⟨w2.heap.size, 6, none⟩ (.int .i64 sp3)).setCell ⟨w2.heap.size, 7, none⟩ (.int .i64 hd3)).setCell ⟨w2.heap.size, 8, none⟩ (.slice AC3 cs3.length cC3)).setCell ⟨w2.heap.size, 9, none⟩ (.slice AS3 ss3.length cS3)) := ⟨_, rfl⟩
  rw [← hW] at hq ht ⊢
  clear hW
  have z9 := ht.size
  replace B1 := Lib.hid (B1.out.under ht (by omega))
  replace HM := Lib.hid (HM.out.turned ht (by omega) (by omega))
  replace B2 : Hid (bk w9 (w2.heap.size) 29 [.string id2, .int .i64 lim2, .int .i64 pos2, .int .i64 most2, .int .i64 sum2, .slice AN ls.length cN, .int .i64 sp3, .int .i64 hd3, .slice AC3 cs3.length cC3, .slice AS3 ss3.length cS3, .slice AL2 sl2.length cL2]) := Lib.hid hq
  replace HU := Lib.hid (HU.out.turned ht (by omega) (by omega))
  replace HR := Lib.hid (HR.out.turned ht (by omega) (by omega))
  replace HB : Hid (Below w.heap.size w w9) := Lib.hid (HB.out.trans (ht.below (B := w.heap.size) (by omega) (by omega)))
  clear hq ht p0 p1 p2 p3 p4 p5 p6 p7 p8 p9 p10 f0 f1 f2 f3 f4 f5 f6 f7 f8 f9 f10
  have HM2 := Lib.hid (swapR (r := (sp3, hd3, cs3, ss3)) (swapH (p2 := w6.heap.size) HM.out (HU.out.mono (by omega) (by omega)) (by omega) (by omega)) (p2 := w9.heap.size) (HR.out.mono (by omega) (by omega)) (by omega) (by omega))
  simp only [setR, aId, aLim, aPos, aMost, aSum, aH, aS] at HM2
  clear HM HU HR HFW
  obtain ⟨⟨p0, p1, p2, p3, p4, p5, p6, p7, p8, p9, p10⟩, -⟩ := B2.out.eleven
  obtain ⟨⟨r0, r1, r2, r3, r4, r5, r6, r7, r8, r9, r10⟩, g0, g1, g2, g3, g4, g5, g6, g7, g8, g9, g10⟩ := B1.out.eleven
  go_wp2
  refine bodyPost_ret (v := .tuple #[.agg #[.string id2, .int .i64 lim2, .int .i64 pos2, .int .i64 most2, .int .i64 sum2, .slice AN ls.length cN, .int .i64 sp3, .int .i64 hd3, .slice AC3 cs3.length cC3, .slice AS3 ss3.length cS3, .slice AL2 sl2.length cL2], .int .i64 0]) (by simp [results, Tryz.results37, go_sem, r0, r1, r2, r3, r4, r5, r6, r7, r8, r9, r10]) rfl ?_
  have ht := (((((((((((Turned.refl w.heap.size (w.heap.size + 2) w9).set (b := w.heap.size + 1) 0 (.string id2) (by omega) (by omega)).set (b := w.heap.size + 1) 1 (.int .i64 lim2) (by omega) (by omega)).set (b := w.heap.size + 1) 2 (.int .i64 pos2) (by omega) (by omega)).set (b := w.heap.size + 1) 3 (.int .i64 most2) (by omega) (by omega)).set (b := w.heap.size + 1) 4 (.int .i64 sum2) (by omega) (by omega)).set (b := w.heap.size + 1) 5 (.slice AN ls.length cN) (by omega) (by omega)).set (b := w.heap.size + 1) 6 (.int .i64 sp3) (by omega) (by omega)).set (b := w.heap.size + 1) 7 (.int .i64 hd3) (by omega) (by omega)).set (b := w.heap.size + 1) 8 (.slice AC3 cs3.length cC3) (by omega) (by omega)).set (b := w.heap.size + 1) 9 (.slice AS3 ss3.length cS3) (by omega) (by omega)).set (b := w.heap.size + 1) 10 (.slice AL2 sl2.length cL2) (by omega) (by omega)
  have hsz := ht.size
  rw [HD.out]
  exact ⟨_, _, _, _, rfl, (HM2.out.turned ht (.inr (by omega)) (by omega)).mono (by omega) (by omega), HB.out.trans (ht.below (by omega) (by omega))⟩
end Go.Proofs.YtnmijppppcgobaaGreatDoor
