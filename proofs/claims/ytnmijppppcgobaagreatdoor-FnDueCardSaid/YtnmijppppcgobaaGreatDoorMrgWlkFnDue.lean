/- The walk of FnDue; conditions: those that it names. -/
import Derived.Test.YtnmijppppcgobaaGreatDoorMrg15
import Derived.Test.YtnmijppppcgobaaGreatDoorMrg9
import Derived.Test.YtnmijppppcgobaaGreatDoorMrg7
import Derived.Test.YtnmijppppcgobaaGreatDoorMrg17
import Derived.Test.YtnmijppppcgobaaGreatDoorMrg8
import Derived.Test.YtnmijppppcgobaaGreatDoorMrg20
import Derived.Stop.LaidErr
import Derived.LaidMore
import Derived.Stop.Joined
import Derived.SevenTiedAt
import Derived.WalkSmall
import Derived.LaidHandle
import Derived.Test.YtnmijppppcgobaaGreatDoorMrg21
import Derived.Test.YtnmijppppcgobaaGreatDoorMrg5
import Derived.Deep.RegionHeld3
namespace Go.Proofs.YtnmijppppcgobaaGreatDoor.fnDue
open Go.ChangeShapes Go.WideShapes Go.ChangeAt Go.RowKit
open Go.WideMaps Go.WideElems
open Go.ChangeMaps (open_string shut_string)
set_option linter.unusedVariables false

set_option maxRecDepth 100000 in
set_option maxHeartbeats 8000000 in
theorem walk (w : World) (p0 : Addr) (hc0 : w.cell? ⟨0, 0, none⟩ = some (.iface 266 (.pointer (some p0)))) (hh : w.cell? ⟨1, 0, none⟩ = some (.iface 230 (.agg #[.pointer (some ⟨6, 149, none⟩)]))) (a0 : Value) (s0 : ∃ ao len cap, a0 = .slice ao len cap) (w0 : readable w w.heap.size a0) :
    Calls Tryz.prog 3 #[a0] w fun e w' => e = .returned (.bool true) ∧ Below w.heap.size w w' := by
  obtain ⟨ao, len, cap, rfl⟩ := s0
  by_cases hbig : (1048576 : Int) < (len : Int)
  · go_enter Tryz.func3, Tryz.ntmps3
    go_wp2
    go_ret
    exact ⟨rfl, Below.refl _ _⟩
  have hlen : lenOf (.slice ao len cap) ≤ 1048576 := by show len ≤ 1048576; omega
  have HH : Hid (∀ w', Below w.heap.size w w' → Handle w') := Lib.hid fun w' h => Handle.below (w := w) hh h (Nat.le_refl _)
  clear hh
  have HR := Lib.hid w0
  clear w0
  go_enter Tryz.func3, Tryz.ntmps3
  have HB : Hid (Below w.heap.size w w) := Lib.hid (Below.refl _ _)
  go_wp2_with fail
  refine (makeAcct_any _ w ((HR.out.below HB.out).le HB.out.size) hlen).mono ?_
  rintro e w1 ⟨⟨id, lim, pos, most, sum, hs, ⟨sp, hd, cs, ss⟩, sl⟩, vh, vc, vs, vl, rfl, hok, hm, hb⟩
  have z1 := hb.size
  replace HB : Hid (Below w.heap.size w w1) := Lib.hid (HB.out.trans (hb.mono (by omega)))
  clear hb
  simp only [aId, aLim, aPos, aMost, aSum]
  obtain ⟨xh, xc, xs, xl, hcs, r1, r2, r3, r4⟩ := acct_rd hm.mine.rd
  simp only [aCells, List.cons.injEq, and_true, true_and] at hcs
  obtain ⟨rfl, rfl, rfl, rfl⟩ := hcs
  obtain ⟨AH, cH, rfl, -⟩ := Rep.slice_form r1
  obtain ⟨AL, cL, rfl, -⟩ := Rep.slice_form r4
  obtain ⟨AC, cC, rfl, -⟩ := r2.form
  obtain ⟨AS, cS, rfl, -⟩ := r3.form
  simp only [aH, aS] at hm ⊢
  have HOK : Hid (acctOk (id, lim, pos, most, sum, hs, (sp, hd, cs, ss), sl) = true) := Lib.hid hok
  have HFW := Lib.hid (acctOk_few hok)
  have HA := Lib.hid hm.mine.rd
  clear r1 r2 r3 r4 hok hm
  go_upto_region 4 with fail
  obtain ⟨w2, hW⟩ : ∃ V, V = w1.alloc (.cells #[.string id, .int .i64 lim, .int .i64 pos, .int .i64 most, .int .i64 sum, .slice AH hs.length cH, .int .i64 sp, .int .i64 hd, .slice AC cs.length cC, .slice AS ss.length cS, .slice AL sl.length cL] 29) := ⟨_, rfl⟩
  have bx : bk w2 w1.heap.size 29 [.string id, .int .i64 lim, .int .i64 pos, .int .i64 most, .int .i64 sum, .slice AH hs.length cH, .int .i64 sp, .int .i64 hd, .slice AC cs.length cC, .slice AS ss.length cS, .slice AL sl.length cL] := by rw [hW]; exact bk.new w1 _ _
  have hb : Below w1.heap.size w1 w2 := by rw [hW]; exact (Below.refl _ _).alloc (Nat.le_refl _) _
  rw [← hW]
  clear hW
  have z2 := bx.lt
  have y2 := hb.size
  replace HA := Lib.hid (Rep.below (R := AcctR) HA.out hb (by omega))
  replace HB : Hid (Below w.heap.size w w2) := Lib.hid (HB.out.trans (hb.mono (by omega)))
  have BA := Lib.hid bx
  clear hb bx
  go_wp2_with fail
  refine (makeNum_any _ 40 w2 ((HR.out.below HB.out).le HB.out.size) hlen (by decide) (by decide)).mono ?_
  rintro e w3 ⟨now, rfl, now0, now1, hb⟩
  have z3 := hb.size
  replace HA := Lib.hid (Rep.below (R := AcctR) HA.out hb (by omega))
  replace BA := Lib.hid (BA.out.below hb (by omega))
  replace HB : Hid (Below w.heap.size w w3) := Lib.hid (HB.out.trans (hb.mono (by omega)))
  clear hb
  have HTM : Hid (timeB now = true) := Lib.hid (by unfold timeB inB; exact decide_eq_true (by omega))
  have HN := Lib.hid (And.intro now0 now1)
  clear now0 now1
  obtain ⟨hrd0, -, -, -⟩ : HoldsR.rd w1.heap.size w3 [.slice AH hs.length cH] hs ∧ True ∧ True ∧ True := ⟨(by obtain ⟨xh, xc, xs, xl, hcs, r1, -, -, -⟩ := acct_rd HA.out; simp only [aCells, List.cons.injEq, and_true, true_and] at hcs; obtain ⟨rfl, -, -, -⟩ := hcs; exact r1), trivial, trivial, trivial⟩
  obtain ⟨A0, c0, hv0, -, hr1⟩ := holds_rd hrd0
  simp only [Value.slice.injEq, true_and] at hv0
  obtain ⟨rfl, rfl⟩ := hv0
  have HRD := Lib.hid hr1
  have HRH := Lib.hid hrd0
  clear hr1 hrd0
  have hl4 : hs.length ≤ 4 := HFW.out.h
  obtain ⟨⟨p0, p1, p2, p3, p4, p5, p6, p7, p8, p9, p10⟩, -⟩ := BA.out.eleven
  go_upto_region 6 with fail
  clear p0 p1 p2 p3 p4 p5 p6 p7 p8 p9 p10
  have hhq : w1.heap.size ≤ w3.heap.size := by omega
  have hpq : w1.heap.size < w3.heap.size := by omega
  have hq0 : w.heap.size ≤ w1.heap.size := by omega
  go_loopw [24] (fun iv wr => ∃ i : Nat, i ≤ hs.length ∧ iv = .int .i64 i ∧ Hid (Below w3.heap.size w3 wr)) (fun iv _ => hs.length - (intOf iv).toNat)
  case atStart => exact ⟨0, Nat.zero_le _, rfl, Lib.hid (Below.refl _ _)⟩
  case round =>
    obtain ⟨i, hi', rfl, HQ⟩ := hrel
    have zr := HQ.out.size
    replace BA := Lib.hid (BA.out.below HQ.out hpq)
    replace HA := Lib.hid (Rep.below (R := AcctR) HA.out HQ.out hhq)
    replace HB : Hid (Below w.heap.size w wr) := Lib.hid (HB.out.trans (HQ.out.mono (by omega)))
    by_cases hin : i < hs.length
    · obtain ⟨x, hx⟩ : ∃ x, hs[i]? = some x := ⟨_, List.getElem?_eq_getElem hin⟩
      obtain ⟨a1, o1, rfl, hal, d0, d1, d2⟩ := HRD.out i x hx
      have d0 := (HQ.out.cell (p := ⟨a1, _, none⟩) (show a1 < w3.heap.size by omega)).trans d0
      have d1 := (HQ.out.cell (p := ⟨a1, _, none⟩) (show a1 < w3.heap.size by omega)).trans d1
      have d2 := (HQ.out.cell (p := ⟨a1, _, none⟩) (show a1 < w3.heap.size by omega)).trans d2
      have g1 : (i : Int) < (hs.length : Int) := by omega
      have g2 : 0 ≤ (i : Int) := by omega
      have HMX : Hid (x ∈ hs) := Lib.hid (List.mem_of_getElem? hx)
      have hxs : x.1.size ≤ maxLen := by have := HFW.out.hi x HMX.out; unfold maxLen; omega
      have HDL := Lib.hid (fun hl => due_live HOK.out HTM.out HMX.out (now := now) hl)
      have HDD := Lib.hid (fun hl => due_dead HOK.out HTM.out HMX.out (now := now) hl)
      clear hx
      obtain ⟨xi, xa, xd⟩ := x
      simp only at d0 d1 d2 hxs HDL HDD
      go_upto_region 8 with fail
      obtain ⟨w101, hW⟩ : ∃ V, V = wr.alloc (.cells #[.string xi, .int .i64 xa, .int .i64 xd] 33) := ⟨_, rfl⟩
      have bx : bk w101 wr.heap.size 33 [.string xi, .int .i64 xa, .int .i64 xd] := by rw [hW]; exact bk.new wr _ _
      have hb : Below wr.heap.size wr w101 := by rw [hW]; exact (Below.refl _ _).alloc (Nat.le_refl _) _
      rw [← hW]
      clear hW
      have z101 := bx.lt
      have y101 := hb.size
      replace BA := Lib.hid (BA.out.below hb (by omega))
      replace HA := Lib.hid (Rep.below (R := AcctR) HA.out hb (by omega))
      replace HQ := Lib.hid (HQ.out.trans (hb.mono (by omega)))
      replace HB : Hid (Below w.heap.size w w101) := Lib.hid (HB.out.trans (hb.mono (by omega)))
      have BH := Lib.hid bx
      clear hb bx
      clear d0 d1 d2 g1 g2
      have HC := Lib.hid (implCapture_any w1.heap.size (.slice (some ⟨a1, o1, none⟩) hs.length cH) (.slice AC cs.length cC) (.slice AS ss.length cS) (.slice AL sl.length cL) (id, lim, pos, most, sum, hs, (sp, hd, cs, ss), sl) xi 1 true now w101 (HH.out _ HB.out) (few_small HFW.out) (few_big HFW.out) HA.out (by omega) hxs)
      simp only [aId, aLim, aPos, aMost, aSum] at HC
      obtain ⟨⟨⟨id1, lim1, pos1, most1, sum1, hs1, ⟨sp1, hd1, cs1, ss1⟩, sl1⟩, k1⟩, hr1⟩ : ∃ r, r = capL (id, lim, pos, most, sum, hs, (sp, hd, cs, ss), sl) xi 1 true now := ⟨_, rfl⟩
      rw [← hr1] at HC HDL HDD
      clear hr1
      simp only [aPos] at HC HDL HDD
      obtain ⟨⟨p0, p1, p2, p3, p4, p5, p6, p7, p8, p9, p10⟩, -⟩ := BA.out.eleven
      obtain ⟨q0, q1, q2⟩ := BH.out.cells3
      go_wp2_with fail
      refine (HC.out).mono ?_
      rintro e w102 ⟨vh, vc, vs, vl, rfl, hm, hb⟩
      have z102 := hb.size
      replace BA := Lib.hid (BA.out.below hb (by omega))
      replace HA := Lib.hid (Rep.below (R := AcctR) HA.out hb (by omega))
      replace BH := Lib.hid (BH.out.below hb (by omega))
      replace HQ := Lib.hid (HQ.out.trans (hb.mono (by omega)))
      replace HB : Hid (Below w.heap.size w w102) := Lib.hid (HB.out.trans (hb.mono (by omega)))
      clear hb HC p0 p1 p2 p3 p4 p5 p6 p7 p8 p9 p10 q0 q1 q2
      simp only [aId, aLim, aPos, aMost, aSum]
      obtain ⟨xh, xc, xs, xl, hcs, r1, r2, r3, r4⟩ := acct_rd hm.mine.rd
      simp only [aCells, List.cons.injEq, and_true, true_and] at hcs
      obtain ⟨rfl, rfl, rfl, rfl⟩ := hcs
      obtain ⟨AH1, cH1, rfl, -⟩ := Rep.slice_form r1
      obtain ⟨AL1, cL1, rfl, -⟩ := Rep.slice_form r4
      obtain ⟨AC1, cC1, rfl, -⟩ := r2.form
      obtain ⟨AS1, cS1, rfl, -⟩ := r3.form
      simp only [aH, aS]
      clear r1 r2 r3 r4 hm
      go_upto_region 9 with fail
      obtain ⟨w103, hW⟩ : ∃ V, V = w102.alloc (.cells #[.string id1, .int .i64 lim1, .int .i64 pos1, .int .i64 most1, .int .i64 sum1, .slice AH1 hs1.length cH1, .int .i64 sp1, .int .i64 hd1, .slice AC1 cs1.length cC1, .slice AS1 ss1.length cS1, .slice AL1 sl1.length cL1] 29) := ⟨_, rfl⟩
      have bx : bk w103 w102.heap.size 29 [.string id1, .int .i64 lim1, .int .i64 pos1, .int .i64 most1, .int .i64 sum1, .slice AH1 hs1.length cH1, .int .i64 sp1, .int .i64 hd1, .slice AC1 cs1.length cC1, .slice AS1 ss1.length cS1, .slice AL1 sl1.length cL1] := by rw [hW]; exact bk.new w102 _ _
      have hb : Below w102.heap.size w102 w103 := by rw [hW]; exact (Below.refl _ _).alloc (Nat.le_refl _) _
      rw [← hW]
      clear hW
      have z103 := bx.lt
      have y103 := hb.size
      replace BA := Lib.hid (BA.out.below hb (by omega))
      replace HA := Lib.hid (Rep.below (R := AcctR) HA.out hb (by omega))
      replace BH := Lib.hid (BH.out.below hb (by omega))
      replace HQ := Lib.hid (HQ.out.trans (hb.mono (by omega)))
      replace HB : Hid (Below w.heap.size w w103) := Lib.hid (HB.out.trans (hb.mono (by omega)))
      have B7 := Lib.hid bx
      clear hb bx
      have HC := Lib.hid (implFree_any w1.heap.size (.slice (some ⟨a1, o1, none⟩) hs.length cH) (.slice AC cs.length cC) (.slice AS ss.length cS) (.slice AL sl.length cL) (id, lim, pos, most, sum, hs, (sp, hd, cs, ss), sl) xi now w103 (HH.out _ HB.out) (few_small HFW.out) (few_big HFW.out) HA.out (by omega) hxs)
      simp only [aId, aLim, aPos, aMost, aSum] at HC
      obtain ⟨⟨⟨id2, lim2, pos2, most2, sum2, hs2, ⟨sp2, hd2, cs2, ss2⟩, sl2⟩, k2⟩, hr2⟩ : ∃ r, r = frL (id, lim, pos, most, sum, hs, (sp, hd, cs, ss), sl) xi now := ⟨_, rfl⟩
      rw [← hr2] at HC HDL HDD
      clear hr2
      simp only at HC HDL HDD
      obtain ⟨⟨p0, p1, p2, p3, p4, p5, p6, p7, p8, p9, p10⟩, -⟩ := BA.out.eleven
      obtain ⟨q0, q1, q2⟩ := BH.out.cells3
      go_wp2_with fail
      refine (HC.out).mono ?_
      rintro e w104 ⟨vh, vc, vs, vl, rfl, hm, hb⟩
      have z104 := hb.size
      replace BA := Lib.hid (BA.out.below hb (by omega))
      replace HA := Lib.hid (Rep.below (R := AcctR) HA.out hb (by omega))
      replace BH := Lib.hid (BH.out.below hb (by omega))
      replace B7 := Lib.hid (B7.out.below hb (by omega))
      replace HQ := Lib.hid (HQ.out.trans (hb.mono (by omega)))
      replace HB : Hid (Below w.heap.size w w104) := Lib.hid (HB.out.trans (hb.mono (by omega)))
      clear hb HC p0 p1 p2 p3 p4 p5 p6 p7 p8 p9 p10 q0 q1 q2
      simp only [aId, aLim, aPos, aMost, aSum]
      obtain ⟨xh, xc, xs, xl, hcs, r1, r2, r3, r4⟩ := acct_rd hm.mine.rd
      simp only [aCells, List.cons.injEq, and_true, true_and] at hcs
      obtain ⟨rfl, rfl, rfl, rfl⟩ := hcs
      obtain ⟨AH2, cH2, rfl, -⟩ := Rep.slice_form r1
      obtain ⟨AL2, cL2, rfl, -⟩ := Rep.slice_form r4
      obtain ⟨AC2, cC2, rfl, -⟩ := r2.form
      obtain ⟨AS2, cS2, rfl, -⟩ := r3.form
      simp only [aH, aS]
      clear r1 r2 r3 r4 hm
      go_upto_region 10 with fail
      obtain ⟨w105, hW⟩ : ∃ V, V = w104.alloc (.cells #[.string id2, .int .i64 lim2, .int .i64 pos2, .int .i64 most2, .int .i64 sum2, .slice AH2 hs2.length cH2, .int .i64 sp2, .int .i64 hd2, .slice AC2 cs2.length cC2, .slice AS2 ss2.length cS2, .slice AL2 sl2.length cL2] 29) := ⟨_, rfl⟩
      have bx : bk w105 w104.heap.size 29 [.string id2, .int .i64 lim2, .int .i64 pos2, .int .i64 most2, .int .i64 sum2, .slice AH2 hs2.length cH2, .int .i64 sp2, .int .i64 hd2, .slice AC2 cs2.length cC2, .slice AS2 ss2.length cS2, .slice AL2 sl2.length cL2] := by rw [hW]; exact bk.new w104 _ _
      have hb : Below w104.heap.size w104 w105 := by rw [hW]; exact (Below.refl _ _).alloc (Nat.le_refl _) _
      rw [← hW]
      clear hW
      have z105 := bx.lt
      have y105 := hb.size
      replace BA := Lib.hid (BA.out.below hb (by omega))
      replace HA := Lib.hid (Rep.below (R := AcctR) HA.out hb (by omega))
      replace BH := Lib.hid (BH.out.below hb (by omega))
      replace B7 := Lib.hid (B7.out.below hb (by omega))
      replace HQ := Lib.hid (HQ.out.trans (hb.mono (by omega)))
      replace HB : Hid (Below w.heap.size w w105) := Lib.hid (HB.out.trans (hb.mono (by omega)))
      have B9 := Lib.hid bx
      clear hb bx
      have HC := Lib.hid (implMore_any w1.heap.size (.slice (some ⟨a1, o1, none⟩) hs.length cH) (.slice AC cs.length cC) (.slice AS ss.length cS) (.slice AL sl.length cL) (id, lim, pos, most, sum, hs, (sp, hd, cs, ss), sl) xi 1 now w105 (HH.out _ HB.out) (few_small HFW.out) (few_big HFW.out) HA.out (by omega) hxs)
      simp only [aId, aLim, aPos, aMost, aSum] at HC
      obtain ⟨⟨⟨id3, lim3, pos3, most3, sum3, hs3, ⟨sp3, hd3, cs3, ss3⟩, sl3⟩, k3⟩, hr3⟩ : ∃ r, r = moreL (id, lim, pos, most, sum, hs, (sp, hd, cs, ss), sl) xi 1 now := ⟨_, rfl⟩
      rw [← hr3] at HC HDL HDD
      clear hr3
      simp only at HC HDL HDD
      obtain ⟨⟨p0, p1, p2, p3, p4, p5, p6, p7, p8, p9, p10⟩, -⟩ := BA.out.eleven
      obtain ⟨q0, q1, q2⟩ := BH.out.cells3
      go_wp2_with fail
      refine (HC.out).mono ?_
      rintro e w106 ⟨vh, vc, vs, vl, rfl, hm, hb⟩
      have z106 := hb.size
      replace BA := Lib.hid (BA.out.below hb (by omega))
      replace HA := Lib.hid (Rep.below (R := AcctR) HA.out hb (by omega))
      replace BH := Lib.hid (BH.out.below hb (by omega))
      replace B7 := Lib.hid (B7.out.below hb (by omega))
      replace B9 := Lib.hid (B9.out.below hb (by omega))
      replace HQ := Lib.hid (HQ.out.trans (hb.mono (by omega)))
      replace HB : Hid (Below w.heap.size w w106) := Lib.hid (HB.out.trans (hb.mono (by omega)))
      clear hb HC p0 p1 p2 p3 p4 p5 p6 p7 p8 p9 p10 q0 q1 q2
      simp only [aId, aLim, aPos, aMost, aSum]
      obtain ⟨xh, xc, xs, xl, hcs, r1, r2, r3, r4⟩ := acct_rd hm.mine.rd
      simp only [aCells, List.cons.injEq, and_true, true_and] at hcs
      obtain ⟨rfl, rfl, rfl, rfl⟩ := hcs
      obtain ⟨AH3, cH3, rfl, -⟩ := Rep.slice_form r1
      obtain ⟨AL3, cL3, rfl, -⟩ := Rep.slice_form r4
      obtain ⟨AC3, cC3, rfl, -⟩ := r2.form
      obtain ⟨AS3, cS3, rfl, -⟩ := r3.form
      simp only [aH, aS]
      clear r1 r2 r3 r4 hm
      go_upto_region 11 with fail
      obtain ⟨w107, hW⟩ : ∃ V, V = w106.alloc (.cells #[.string id3, .int .i64 lim3, .int .i64 pos3, .int .i64 most3, .int .i64 sum3, .slice AH3 hs3.length cH3, .int .i64 sp3, .int .i64 hd3, .slice AC3 cs3.length cC3, .slice AS3 ss3.length cS3, .slice AL3 sl3.length cL3] 29) := ⟨_, rfl⟩
      have bx : bk w107 w106.heap.size 29 [.string id3, .int .i64 lim3, .int .i64 pos3, .int .i64 most3, .int .i64 sum3, .slice AH3 hs3.length cH3, .int .i64 sp3, .int .i64 hd3, .slice AC3 cs3.length cC3, .slice AS3 ss3.length cS3, .slice AL3 sl3.length cL3] := by rw [hW]; exact bk.new w106 _ _
      have hb : Below w106.heap.size w106 w107 := by rw [hW]; exact (Below.refl _ _).alloc (Nat.le_refl _) _
      rw [← hW]
      clear hW
      have z107 := bx.lt
      have y107 := hb.size
      replace BA := Lib.hid (BA.out.below hb (by omega))
      replace HA := Lib.hid (Rep.below (R := AcctR) HA.out hb (by omega))
      replace BH := Lib.hid (BH.out.below hb (by omega))
      replace B7 := Lib.hid (B7.out.below hb (by omega))
      replace B9 := Lib.hid (B9.out.below hb (by omega))
      replace HQ := Lib.hid (HQ.out.trans (hb.mono (by omega)))
      replace HB : Hid (Below w.heap.size w w107) := Lib.hid (HB.out.trans (hb.mono (by omega)))
      have BM := Lib.hid bx
      clear hb bx
      have HLV := Lib.hid (implLive_any (xi, xa, xd) now w107)
      simp only at HLV
      generalize live now (xi, xa, xd) = lv at HLV HDL HDD
      obtain ⟨q0, q1, q2⟩ := BH.out.cells3
      go_wp2_with fail
      refine (HLV.out).mono ?_
      rintro e w108 ⟨rfl, hb⟩
      have z108 := hb.size
      replace BA := Lib.hid (BA.out.below hb (by omega))
      replace HA := Lib.hid (Rep.below (R := AcctR) HA.out hb (by omega))
      replace BH := Lib.hid (BH.out.below hb (by omega))
      replace B7 := Lib.hid (B7.out.below hb (by omega))
      replace B9 := Lib.hid (B9.out.below hb (by omega))
      replace BM := Lib.hid (BM.out.below hb (by omega))
      replace HQ := Lib.hid (HQ.out.trans (hb.mono (by omega)))
      replace HB : Hid (Below w.heap.size w w108) := Lib.hid (HB.out.trans (hb.mono (by omega)))
      clear hb HLV q0 q1 q2
      cases lv
      · obtain ⟨rfl, rfl, rfl⟩ := HDD.out rfl
        clear HDL HDD
        go_wp2
        go_roundw
        case rel => exact ⟨i + 1, by omega, by go_num, HQ⟩
        case measure => simp [intOf] <;> omega
      · obtain ⟨rfl, rfl, rfl, h5⟩ := HDL.out rfl
        have h5e : (k3 == 5) = false := by simpa using h5
        have hnu := acctOk_nums HOK.out
        simp only [aLim, aPos] at hnu
        have hwr : IntKind.i64.wrap (pos + 1) = pos + 1 := IntWalk.i64_in _ (by omega)
        have e1 := BA.out.eleven.1.2.2.1
        have e2 := B7.out.eleven.1.2.2.1
        clear HDL HDD hnu h5
        go_wp2
        go_roundw
        case rel => exact ⟨i + 1, by omega, by go_num, HQ⟩
        case measure => simp [intOf] <;> omega
    obtain rfl : i = hs.length := by omega
    have HQB := HQ
    have HSW := Lib.hid (implAcctSwept_any w1.heap.size (.slice AH hs.length cH) (.slice AC cs.length cC) (.slice AS ss.length cS) (.slice AL sl.length cL) (id, lim, pos, most, sum, hs, (sp, hd, cs, ss), sl) now wr (HH.out _ HB.out) (few_small HFW.out) (few_big HFW.out) HA.out (by omega))
    simp only [aId, aLim, aPos, aMost, aSum] at HSW
    have HDE := Lib.hid (due_end HOK.out HTM.out (now := now))
    have HSF : Hid (acctFew (acctSwept (id, lim, pos, most, sum, hs, (sp, hd, cs, ss), sl) now)) := Lib.hid (few_swept HFW.out)
    have HDS : Hid (acctSwept (acctSwept (id, lim, pos, most, sum, hs, (sp, hd, cs, ss), sl) now) now = acctSwept (id, lim, pos, most, sum, hs, (sp, hd, cs, ss), sl) now) := Lib.hid (swept_swept HOK.out HTM.out)
    obtain ⟨⟨id5, lim5, pos5, most5, sum5, hs5, ⟨sp5, hd5, cs5, ss5⟩, sl5⟩, hrs⟩ : ∃ r, r = acctSwept (id, lim, pos, most, sum, hs, (sp, hd, cs, ss), sl) now := ⟨_, rfl⟩
    rw [← hrs] at HSW HDE HSF HDS
    clear hrs
    simp only [aLim, aPos, aH] at HDE
    obtain ⟨⟨p0, p1, p2, p3, p4, p5, p6, p7, p8, p9, p10⟩, -⟩ := BA.out.eleven
    go_wp2_with fail
    refine (HSW.out).mono ?_
    rintro e w101 ⟨vh, vc, vs, vl, rfl, hm, hb⟩
    have z101 := hb.size
    replace BA := Lib.hid (BA.out.below hb (by omega))
    replace HA := Lib.hid (Rep.below (R := AcctR) HA.out hb (by omega))
    replace HQ := Lib.hid (HQ.out.trans (hb.mono (by omega)))
    replace HQB := Lib.hid (HQB.out.trans (hb.mono (by omega)))
    replace HB : Hid (Below w.heap.size w w101) := Lib.hid (HB.out.trans (hb.mono (by omega)))
    clear hb HSW p0 p1 p2 p3 p4 p5 p6 p7 p8 p9 p10
    simp only [aId, aLim, aPos, aMost, aSum]
    obtain ⟨xh, xc, xs, xl, hcs, r1, r2, r3, r4⟩ := acct_rd hm.mine.rd
    simp only [aCells, List.cons.injEq, and_true, true_and] at hcs
    obtain ⟨rfl, rfl, rfl, rfl⟩ := hcs
    obtain ⟨AH5, cH5, rfl, -⟩ := Rep.slice_form r1
    obtain ⟨AL5, cL5, rfl, -⟩ := Rep.slice_form r4
    obtain ⟨AC5, cC5, rfl, -⟩ := r2.form
    obtain ⟨AS5, cS5, rfl, -⟩ := r3.form
    simp only [aH, aS]
    have HA5 := Lib.hid hm.mine.rd
    clear r1 r2 r3 r4 hm
    go_upto_region 18 with fail
    obtain ⟨w102, hW⟩ : ∃ V, V = w101.alloc (.cells #[.string id5, .int .i64 lim5, .int .i64 pos5, .int .i64 most5, .int .i64 sum5, .slice AH5 hs5.length cH5, .int .i64 sp5, .int .i64 hd5, .slice AC5 cs5.length cC5, .slice AS5 ss5.length cS5, .slice AL5 sl5.length cL5] 29) := ⟨_, rfl⟩
    have bx : bk w102 w101.heap.size 29 [.string id5, .int .i64 lim5, .int .i64 pos5, .int .i64 most5, .int .i64 sum5, .slice AH5 hs5.length cH5, .int .i64 sp5, .int .i64 hd5, .slice AC5 cs5.length cC5, .slice AS5 ss5.length cS5, .slice AL5 sl5.length cL5] := by rw [hW]; exact bk.new w101 _ _
    have hb : Below w101.heap.size w101 w102 := by rw [hW]; exact (Below.refl _ _).alloc (Nat.le_refl _) _
    rw [← hW]
    clear hW
    have z102 := bx.lt
    have y102 := hb.size
    replace BA := Lib.hid (BA.out.below hb (by omega))
    replace HA := Lib.hid (Rep.below (R := AcctR) HA.out hb (by omega))
    replace HA5 := Lib.hid (Rep.below (R := AcctR) HA5.out hb (by omega))
    replace HQ := Lib.hid (HQ.out.trans (hb.mono (by omega)))
    replace HQB := Lib.hid (HQB.out.trans (hb.mono (by omega)))
    replace HB : Hid (Below w.heap.size w w102) := Lib.hid (HB.out.trans (hb.mono (by omega)))
    have BS := Lib.hid bx
    clear hb bx
    have HBX : Hid (∀ V, Ext w102 V → Below w.heap.size w V) := Lib.hid fun V hV => HB.out.trans (hV.below.mono (by omega))
    have hnu := acctOk_nums HOK.out
    simp only [aLim, aPos] at hnu
    obtain ⟨sr0, sr1⟩ := storedL_range (liveL hs now)
    obtain ⟨e1, e2, e3, e4⟩ := HDE.out
    rw [HDS.out] at e4
    rw [e2] at e1
    have HRA : Hid (∀ V, Ext w102 V → Calls Tryz.prog 22 #[.agg #[.string id, .int .i64 lim, .int .i64 pos, .int .i64 most, .int .i64 sum, .slice AH hs.length cH, .int .i64 sp, .int .i64 hd, .slice AC cs.length cC, .slice AS ss.length cS, .slice AL sl.length cL], .int .i64 now] V fun e w' => e = .returned (.int .i64 (lim - pos - storedL (liveL hs now))) ∧ Below V.heap.size V w') := Lib.hid fun V hV => by have := implRoom_any w1.heap.size (.slice AH hs.length cH) (.slice AC cs.length cC) (.slice AS ss.length cS) (.slice AL sl.length cL) (id, lim, pos, most, sum, hs, (sp, hd, cs, ss), sl) now V (HH.out V (HBX.out V hV)) (few_small HFW.out) (few_big HFW.out) (Rep.below (R := AcctR) HA.out hV.below (by omega)) (Nat.le_trans (by omega) hV.below.size); rw [e2] at this; exact this
    have HRS : Hid (∀ V, Ext w102 V → Calls Tryz.prog 22 #[.agg #[.string id5, .int .i64 lim5, .int .i64 pos5, .int .i64 most5, .int .i64 sum5, .slice AH5 hs5.length cH5, .int .i64 sp5, .int .i64 hd5, .slice AC5 cs5.length cC5, .slice AS5 ss5.length cS5, .slice AL5 sl5.length cL5], .int .i64 now] V fun e w' => e = .returned (.int .i64 (lim - pos - storedL (liveL hs now))) ∧ Below V.heap.size V w') := Lib.hid fun V hV => by have := implRoom_any w101.heap.size (.slice AH5 hs5.length cH5) (.slice AC5 cs5.length cC5) (.slice AS5 ss5.length cS5) (.slice AL5 sl5.length cL5) (id5, lim5, pos5, most5, sum5, hs5, (sp5, hd5, cs5, ss5), sl5) now V (HH.out V (HBX.out V hV)) (few_small HSF.out) (few_big HSF.out) (Rep.below (R := AcctR) HA5.out hV.below (by omega)) (Nat.le_trans (by omega) hV.below.size); rw [e1] at this; exact this
    have HLS := Lib.hid (fun V (hV : Ext w102 V) => implLiveSum_any w1.heap.size _ hs now V (HH.out V (HBX.out V hV)) (by omega) (Rep.below (R := HoldsR) HRH.out (HQB.out.trans (hV.below.mono (by omega))) (by omega)) (Nat.le_trans (by omega) hV.below.size))
    obtain ⟨xh, xc, xs, xl, hcs, rh5, -, -, -⟩ := acct_rd HA5.out
    simp only [aCells, List.cons.injEq, and_true, true_and] at hcs
    obtain ⟨rfl, -, -, -⟩ := hcs
    simp only [aH] at rh5
    have HST : Hid (∀ V, Ext w102 V → Calls Tryz.prog 24 #[.slice AH5 hs5.length cH5] V fun e w' => e = .returned (.int .i64 (storedL (liveL hs now))) ∧ Below V.heap.size V w') := Lib.hid fun V hV => by have := implStored_any w101.heap.size _ hs5 V (HH.out V (HBX.out V hV)) (by have := HSF.out.h; simp only [aH] at this; omega) (Rep.below (R := HoldsR) rh5 hV.below (by omega)) (Nat.le_trans (by omega) hV.below.size); rw [e3] at this; exact this
    have HSW : Hid (∀ V, Ext w102 V → Calls Tryz.prog 21 #[.agg #[.string id5, .int .i64 lim5, .int .i64 pos5, .int .i64 most5, .int .i64 sum5, .slice AH5 hs5.length cH5, .int .i64 sp5, .int .i64 hd5, .slice AC5 cs5.length cC5, .slice AS5 ss5.length cS5, .slice AL5 sl5.length cL5], .int .i64 now] V (acctOneI (id5, lim5, pos5, most5, sum5, hs5, (sp5, hd5, cs5, ss5), sl5) V)) := Lib.hid fun V hV => by have := implAcctSwept_any w101.heap.size (.slice AH5 hs5.length cH5) (.slice AC5 cs5.length cC5) (.slice AS5 ss5.length cS5) (.slice AL5 sl5.length cL5) (id5, lim5, pos5, most5, sum5, hs5, (sp5, hd5, cs5, ss5), sl5) now V (HH.out V (HBX.out V hV)) (few_small HSF.out) (few_big HSF.out) (Rep.below (R := AcctR) HA5.out hV.below (by omega)) (Nat.le_trans (by omega) hV.below.size); rw [HDS.out] at this; exact this
    have HSM : Hid (∀ V U vh vc vs vl, Ext w102 V → Ext V U → AcctI V.heap.size U.heap.size U vh vc vs vl (id5, lim5, pos5, most5, sum5, hs5, (sp5, hd5, cs5, ss5), sl5) → Calls Tryz.prog 25 #[.agg #[.string id5, .int .i64 lim5, .int .i64 pos5, .int .i64 most5, .int .i64 sum5, vh, .int .i64 sp5, .int .i64 hd5, vc, vs, vl], .agg #[.string id5, .int .i64 lim5, .int .i64 pos5, .int .i64 most5, .int .i64 sum5, .slice AH5 hs5.length cH5, .int .i64 sp5, .int .i64 hd5, .slice AC5 cs5.length cC5, .slice AS5 ss5.length cS5, .slice AL5 sl5.length cL5]] U fun e w' => e = .returned (.bool true) ∧ Below U.heap.size U w') := Lib.hid fun V U vh vc vs vl hV hU hm => by have := implAcctSame_any U.heap.size vh vc vs vl (.slice AH5 hs5.length cH5) (.slice AC5 cs5.length cC5) (.slice AS5 ss5.length cS5) (.slice AL5 sl5.length cL5) (id5, lim5, pos5, most5, sum5, hs5, (sp5, hd5, cs5, ss5), sl5) (id5, lim5, pos5, most5, sum5, hs5, (sp5, hd5, cs5, ss5), sl5) U (few_small HSF.out) hm.mine.rd (AcctR.rd_mono (Rep.below (R := AcctR) (Rep.below (R := AcctR) HA5.out hV.below (by omega)) hU.below (Nat.le_trans (by omega) hV.below.size)) (Nat.le_trans (Nat.le_trans (by omega) hV.below.size) hU.below.size)) (Nat.le_refl _); rw [e4] at this; exact this
    generalize storedL (liveL hs now) = st at sr0 sr1 HRA HRS HLS HST
    clear e1 e2 e3 e4 rh5 HDE HDS
    have hw1 : IntKind.i64.wrap (lim - pos) = lim - pos := IntWalk.i64_in _ (by omega)
    have hw2 : IntKind.i64.wrap (lim - pos - st) = lim - pos - st := IntWalk.i64_in _ (by omega)
    clear hnu sr0 sr1
    have EW : Ext w102 w102.drew := (Ext.refl w102).drew
    obtain ⟨⟨p0, p1, p2, p3, p4, p5, p6, p7, p8, p9, p10⟩, -⟩ := BA.out.eleven
    obtain ⟨⟨s0, s1, s2, s3, s4, s5, s6, s7, s8, s9, s10⟩, -⟩ := BS.out.eleven
    go_region_held3 (fun V => V.cell? ⟨w1.heap.size, 0, none⟩ = some (.string id) ∧ V.cell? ⟨w1.heap.size, 1, none⟩ = some (.int .i64 lim) ∧ V.cell? ⟨w1.heap.size, 2, none⟩ = some (.int .i64 pos) ∧ V.cell? ⟨w1.heap.size, 3, none⟩ = some (.int .i64 most) ∧ V.cell? ⟨w1.heap.size, 4, none⟩ = some (.int .i64 sum) ∧ V.cell? ⟨w1.heap.size, 5, none⟩ = some (.slice AH hs.length cH) ∧ V.cell? ⟨w1.heap.size, 6, none⟩ = some (.int .i64 sp) ∧ V.cell? ⟨w1.heap.size, 7, none⟩ = some (.int .i64 hd) ∧ V.cell? ⟨w1.heap.size, 8, none⟩ = some (.slice AC cs.length cC) ∧ V.cell? ⟨w1.heap.size, 9, none⟩ = some (.slice AS ss.length cS) ∧ V.cell? ⟨w1.heap.size, 10, none⟩ = some (.slice AL sl.length cL) ∧ V.cell? ⟨w101.heap.size, 0, none⟩ = some (.string id5) ∧ V.cell? ⟨w101.heap.size, 1, none⟩ = some (.int .i64 lim5) ∧ V.cell? ⟨w101.heap.size, 2, none⟩ = some (.int .i64 pos5) ∧ V.cell? ⟨w101.heap.size, 3, none⟩ = some (.int .i64 most5) ∧ V.cell? ⟨w101.heap.size, 4, none⟩ = some (.int .i64 sum5) ∧ V.cell? ⟨w101.heap.size, 5, none⟩ = some (.slice AH5 hs5.length cH5) ∧ V.cell? ⟨w101.heap.size, 6, none⟩ = some (.int .i64 sp5) ∧ V.cell? ⟨w101.heap.size, 7, none⟩ = some (.int .i64 hd5) ∧ V.cell? ⟨w101.heap.size, 8, none⟩ = some (.slice AC5 cs5.length cC5) ∧ V.cell? ⟨w101.heap.size, 9, none⟩ = some (.slice AS5 ss5.length cS5) ∧ V.cell? ⟨w101.heap.size, 10, none⟩ = some (.slice AL5 sl5.length cL5) ∧ Ext w102 V) (go_keep) (first | (go_at_call 22; (with_reducible refine (HRS.out _ (by assumption)).mono ?_); rintro e wz ⟨rfl, hbz⟩; have EZ : Ext w102 wz := Ext.step (by assumption) hbz; obtain ⟨⟨p0, p1, p2, p3, p4, p5, p6, p7, p8, p9, p10⟩, -⟩ := (BA.out.below EZ.below (by omega)).eleven; obtain ⟨⟨s0, s1, s2, s3, s4, s5, s6, s7, s8, s9, s10⟩, -⟩ := (BS.out.below EZ.below (by omega)).eleven; clear hbz) | (go_at_call 22; (with_reducible refine (HRA.out _ (by assumption)).mono ?_); rintro e wz ⟨rfl, hbz⟩; have EZ : Ext w102 wz := Ext.step (by assumption) hbz; obtain ⟨⟨p0, p1, p2, p3, p4, p5, p6, p7, p8, p9, p10⟩, -⟩ := (BA.out.below EZ.below (by omega)).eleven; obtain ⟨⟨s0, s1, s2, s3, s4, s5, s6, s7, s8, s9, s10⟩, -⟩ := (BS.out.below EZ.below (by omega)).eleven; clear hbz) | (go_at_call 23; (with_reducible refine (HLS.out _ (by assumption)).mono ?_); rintro e wz ⟨rfl, hbz⟩; have EZ : Ext w102 wz := Ext.step (by assumption) hbz; obtain ⟨⟨p0, p1, p2, p3, p4, p5, p6, p7, p8, p9, p10⟩, -⟩ := (BA.out.below EZ.below (by omega)).eleven; obtain ⟨⟨s0, s1, s2, s3, s4, s5, s6, s7, s8, s9, s10⟩, -⟩ := (BS.out.below EZ.below (by omega)).eleven; clear hbz) | (go_at_call 24; (with_reducible refine (HST.out _ (by assumption)).mono ?_); rintro e wz ⟨rfl, hbz⟩; have EZ : Ext w102 wz := Ext.step (by assumption) hbz; obtain ⟨⟨p0, p1, p2, p3, p4, p5, p6, p7, p8, p9, p10⟩, -⟩ := (BA.out.below EZ.below (by omega)).eleven; obtain ⟨⟨s0, s1, s2, s3, s4, s5, s6, s7, s8, s9, s10⟩, -⟩ := (BS.out.below EZ.below (by omega)).eleven; clear hbz) | (go_at_call 21; (with_reducible refine (HSW.out _ (by assumption)).mono ?_); rintro e wz ⟨vh9, vc9, vs9, vl9, rfl, hm9, hbz⟩; have EZ : Ext w102 wz := Ext.step (by assumption) hbz; obtain ⟨⟨p0, p1, p2, p3, p4, p5, p6, p7, p8, p9, p10⟩, -⟩ := (BA.out.below EZ.below (by omega)).eleven; obtain ⟨⟨s0, s1, s2, s3, s4, s5, s6, s7, s8, s9, s10⟩, -⟩ := (BS.out.below EZ.below (by omega)).eleven; have HSX := Lib.hid (HSM.out _ wz vh9 vc9 vs9 vl9 (by assumption) (show Ext _ wz from hbz) hm9); clear hm9; clear hbz) | (go_at_call 25; (with_reducible refine (HSX.out).mono ?_); rintro e wz ⟨rfl, hbz⟩; have EZ : Ext w102 wz := Ext.step (by assumption) hbz; obtain ⟨⟨p0, p1, p2, p3, p4, p5, p6, p7, p8, p9, p10⟩, -⟩ := (BA.out.below EZ.below (by omega)).eleven; obtain ⟨⟨s0, s1, s2, s3, s4, s5, s6, s7, s8, s9, s10⟩, -⟩ := (BS.out.below EZ.below (by omega)).eleven; clear hbz)| fail)
    go_wp2
    go_ret
    exact ⟨by first | rfl | simp, HBX.out _ (by assumption)⟩
end Go.Proofs.YtnmijppppcgobaaGreatDoor.fnDue
