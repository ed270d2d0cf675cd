/- The walk of FnCapture; conditions: those that it names. -/
import Derived.Test.YtnmijppppcgobaaGreatDoorMrg7
import Derived.Test.YtnmijppppcgobaaGreatDoorMrg17
import Derived.Test.YtnmijppppcgobaaGreatDoorMrg8
import Derived.Test.YtnmijppppcgobaaGreatDoorMrg20
import Derived.Stop.LaidErr
import Derived.LaidMore
import Derived.Stop.Joined
import Derived.SevenTiedAt
import Derived.WalkSmall
import Derived.LaidHandle
import Derived.Test.YtnmijppppcgobaaGreatDoorMrg21
import Derived.Test.YtnmijppppcgobaaGreatDoorMrg22
import Derived.Test.YtnmijppppcgobaaGreatDoorMrg5
import Derived.Deep.RegionHeld3
import Derived.Deep.DeepCutAuto
namespace Go.Proofs.YtnmijppppcgobaaGreatDoor.fnCapture
open Go.ChangeShapes Go.WideShapes Go.ChangeAt Go.RowKit
open Go.WideMaps Go.WideElems
open Go.ChangeMaps (open_string shut_string)
set_option linter.unusedVariables false

set_option maxRecDepth 100000 in
set_option maxHeartbeats 8000000 in
theorem walk (w : World) (p0 : Addr) (hc0 : w.cell? ⟨0, 0, none⟩ = some (.iface 266 (.pointer (some p0)))) (hh : w.cell? ⟨1, 0, none⟩ = some (.iface 230 (.agg #[.pointer (some ⟨6, 149, none⟩)]))) (a0 : Value) (s0 : ∃ ao len cap, a0 = .slice ao len cap) (w0 : readable w w.heap.size a0) :
    Calls Tryz.prog 5 #[a0] w fun e w' => e = .returned (.bool true) ∧ Below w.heap.size w w' := by
  obtain ⟨ao, len, cap, rfl⟩ := s0
  by_cases hbig : (1048576 : Int) < (len : Int)
  · go_enter Tryz.func5, Tryz.ntmps5
    go_wp2
    go_ret
    exact ⟨rfl, Below.refl _ _⟩
  have hlen : lenOf (.slice ao len cap) ≤ 1048576 := by show len ≤ 1048576; omega
  have HH : Hid (∀ w', Below w.heap.size w w' → Handle w') := Lib.hid fun w' h => Handle.below (w := w) hh h (Nat.le_refl _)
  clear hh
  have HR := Lib.hid w0
  clear w0
  go_enter Tryz.func5, Tryz.ntmps5
  have HB : Hid (Below w.heap.size w w) := Lib.hid (Below.refl _ _)
  go_wp2_with fail
  refine (makeAcct_any _ w ((HR.out.below HB.out).le HB.out.size) hlen).mono ?_
  rintro e w1 ⟨⟨id, lim, pos, most, sum, hs, ⟨sp, hd, cs, ss⟩, sl⟩, vh, vc, vs, vl, rfl, hok, hm, hb⟩
  have z1 := hb.size
  replace HB : Hid (Below w.heap.size w w1) := Lib.hid (HB.out.trans (hb.mono (by omega)))
  clear hb
  try simp only [aId, aLim, aPos, aMost, aSum]
  obtain ⟨xh, xc, xs, xl, hcs, r1, r2, r3, r4⟩ := acct_rd hm.mine.rd
  try simp only [aCells, List.cons.injEq, and_true, true_and] at hcs
  obtain ⟨rfl, rfl, rfl, rfl⟩ := hcs
  obtain ⟨AH, cH, rfl, -⟩ := Rep.slice_form r1
  obtain ⟨AL, cL, rfl, -⟩ := Rep.slice_form r4
  obtain ⟨AC, cC, rfl, -⟩ := r2.form
  obtain ⟨AS, cS, rfl, -⟩ := r3.form
  try simp only [aH, aS] at hm ⊢
  have HOK : Hid (acctOk (id, lim, pos, most, sum, hs, (sp, hd, cs, ss), sl) = true) := Lib.hid hok
  have HFW := Lib.hid (acctOk_few hok)
  have HA := Lib.hid hm.mine.rd
  clear r1 r2 r3 r4 hok hm
  go_upto_region 4 with fail
  obtain ⟨w2, hW⟩ : ∃ V, V = w1.alloc (.cells #[.string id, .int .i64 lim, .int .i64 pos, .int .i64 most, .int .i64 sum, .slice AH hs.length cH, .int .i64 sp, .int .i64 hd, .slice AC cs.length cC, .slice AS ss.length cS, .slice AL sl.length cL] 29) := ⟨_, rfl⟩
  have bx : bk w2 w1.heap.size 29 [.string id, .int .i64 lim, .int .i64 pos, .int .i64 most, .int .i64 sum, .slice AH hs.length cH, .int .i64 sp, .int .i64 hd, .slice AC cs.length cC, .slice AS ss.length cS, .slice AL sl.length cL] := by rw [hW]; exact bk.new w1 _ _
  have hb : Below w1.heap.size w1 w2 := by rw [hW]; exact (Below.refl _ _).alloc (Nat.le_refl _) _
  rw [← hW]
  clear hW
  have z2 := bx.lt
  have y2 := hb.size
  replace HA := Lib.hid (Rep.below (R := AcctR) HA.out hb (by omega))
  replace HB : Hid (Below w.heap.size w w2) := Lib.hid (HB.out.trans (hb.mono (by omega)))
  have BA := Lib.hid bx
  clear hb bx
  go_wp2_with fail
  refine (makeHold_any _ w2 ((HR.out.below HB.out).le HB.out.size) hlen).mono ?_
  rintro e w3 ⟨s, n, ttl, now, rfl, ⟨hid, hsz, ⟨n0, n1⟩, ⟨ttl0, ttl1⟩, now0, now1⟩, hb⟩
  have z3 := hb.size
  replace HA := Lib.hid (Rep.below (R := AcctR) HA.out hb (by omega))
  replace BA := Lib.hid (BA.out.below hb (by omega))
  replace HB : Hid (Below w.heap.size w w3) := Lib.hid (HB.out.trans (hb.mono (by omega)))
  clear hb
  have HTM : Hid (timeB now = true) := Lib.hid (by unfold timeB inB; exact decide_eq_true (by omega))
  have HN := Lib.hid (And.intro n0 n1)
  clear hid hsz ttl0 ttl1 now0 now1
  go_wp2_with fail
  refine (makeNum_any _ 2 w3 ((HR.out.below HB.out).le HB.out.size) hlen (by decide) (by decide)).mono ?_
  rintro e w4 ⟨lx, rfl, lx0, lx1, hb⟩
  have z4 := hb.size
  replace HA := Lib.hid (Rep.below (R := AcctR) HA.out hb (by omega))
  replace BA := Lib.hid (BA.out.below hb (by omega))
  replace HB : Hid (Below w.heap.size w w4) := Lib.hid (HB.out.trans (hb.mono (by omega)))
  clear hb
  go_upto_region 6 with fail
  generalize (lx == 0) = last
  clear lx0 lx1
  have HC := Lib.hid (specAcctSwept_any w1.heap.size _ _ _ _ (id, lim, pos, most, sum, hs, (sp, hd, cs, ss), sl) now w4 (few_small HFW.out) (few_big HFW.out) HA.out (by omega))
  try simp only [aId, aLim, aPos, aMost, aSum] at HC
  have HFW5 := Lib.hid (few_swept (now := now) HFW.out)
  have HMM : Hid (∀ x, x ∈ aH (acctSwept (id, lim, pos, most, sum, hs, (sp, hd, cs, ss), sl) now) ↔ x ∈ aH (acctSwept (id, lim, pos, most, sum, hs, (sp, hd, cs, ss), sl) now)) := Lib.hid fun x => Iff.rfl
  obtain ⟨S, hS⟩ : ∃ r, r = acctSwept (id, lim, pos, most, sum, hs, (sp, hd, cs, ss), sl) now := ⟨_, rfl⟩
  have HS := Lib.hid hS
  rw [← hS] at HC HFW5
  clear hS HMM
  obtain ⟨id5, lim5, pos5, most5, sum5, hs5, ⟨sp5, hd5, cs5, ss5⟩, sl5⟩ := S
  try simp only at HC
  obtain ⟨⟨p0, p1, p2, p3, p4, p5, p6, p7, p8, p9, p10⟩, -⟩ := BA.out.eleven
  go_wp2_with fail
  refine (HC.out).mono ?_
  rintro e w5 ⟨vh, vc, vs, vl, rfl, hm, hb⟩
  have z5 := hb.size
  replace HA := Lib.hid (Rep.below (R := AcctR) HA.out hb (by omega))
  replace BA := Lib.hid (BA.out.below hb (by omega))
  replace HB : Hid (Below w.heap.size w w5) := Lib.hid (HB.out.trans (hb.mono (by omega)))
  clear hb HC p0 p1 p2 p3 p4 p5 p6 p7 p8 p9 p10
  try simp only [aId, aLim, aPos, aMost, aSum]
  obtain ⟨xh, xc, xs, xl, hcs, r1, r2, r3, r4⟩ := acct_rd hm.rd
  try simp only [aCells, List.cons.injEq, and_true, true_and] at hcs
  obtain ⟨rfl, rfl, rfl, rfl⟩ := hcs
  obtain ⟨AH5, cH5, rfl, -⟩ := Rep.slice_form r1
  obtain ⟨AL5, cL5, rfl, -⟩ := Rep.slice_form r4
  obtain ⟨AC5, cC5, rfl, -⟩ := r2.form
  obtain ⟨AS5, cS5, rfl, -⟩ := r3.form
  try simp only [aH, aS]
  have HA5 := Lib.hid hm.rd
  clear r1 r2 r3 r4 hm
  go_upto_region 7 with fail
  obtain ⟨w6, hW⟩ : ∃ V, V = w5.alloc (.cells #[.string id5, .int .i64 lim5, .int .i64 pos5, .int .i64 most5, .int .i64 sum5, .slice AH5 hs5.length cH5, .int .i64 sp5, .int .i64 hd5, .slice AC5 cs5.length cC5, .slice AS5 ss5.length cS5, .slice AL5 sl5.length cL5] 29) := ⟨_, rfl⟩
  have bx : bk w6 w5.heap.size 29 [.string id5, .int .i64 lim5, .int .i64 pos5, .int .i64 most5, .int .i64 sum5, .slice AH5 hs5.length cH5, .int .i64 sp5, .int .i64 hd5, .slice AC5 cs5.length cC5, .slice AS5 ss5.length cS5, .slice AL5 sl5.length cL5] := by rw [hW]; exact bk.new w5 _ _
  have hb : Below w5.heap.size w5 w6 := by rw [hW]; exact (Below.refl _ _).alloc (Nat.le_refl _) _
  rw [← hW]
  clear hW
  have z6 := bx.lt
  have y6 := hb.size
  replace HA := Lib.hid (Rep.below (R := AcctR) HA.out hb (by omega))
  replace BA := Lib.hid (BA.out.below hb (by omega))
  replace HA5 := Lib.hid (Rep.below (R := AcctR) HA5.out hb (by omega))
  replace HB : Hid (Below w.heap.size w w6) := Lib.hid (HB.out.trans (hb.mono (by omega)))
  have BS := Lib.hid bx
  clear hb bx
  obtain ⟨xh, xc, xs, xl, hcs, y1, -, -, -⟩ := acct_rd HA5.out
  try simp only [aCells, List.cons.injEq, and_true, true_and] at hcs
  obtain ⟨rfl, -, -, -⟩ := hcs
  try simp only [aH] at y1
  obtain ⟨A0, c0, hv0, -, hr1⟩ := holds_rd y1
  try simp only [Value.slice.injEq, true_and] at hv0
  obtain ⟨rfl, rfl⟩ := hv0
  have HRD := Lib.hid hr1
  clear hr1 y1
  have hl4 : hs5.length ≤ 4 := HFW5.out.h
  obtain ⟨⟨s0, s1, s2, s3, s4, s5, s6, s7, s8, s9, s10⟩, -⟩ := BS.out.eleven
  go_upto_region 8 with fail
  clear s0 s1 s2 s3 s4 s5 s6 s7 s8 s9 s10
  have hq1 : w1.heap.size < w6.heap.size := by omega
  have hq2 : w5.heap.size < w6.heap.size := by omega
  have hq3 : w1.heap.size ≤ w6.heap.size := by omega
  have hq4 : w5.heap.size ≤ w6.heap.size := by omega
  have hq5 : w.heap.size ≤ w1.heap.size := by omega
  have hq6 : w1.heap.size ≤ w5.heap.size := by omega
  go_loopw [36] (fun iv wr => ∃ i : Nat, i ≤ hs5.length ∧ iv = .int .i64 i ∧ Hid (Below w6.heap.size w6 wr)) (fun iv _ => hs5.length - (intOf iv).toNat)
  case atStart => exact ⟨0, Nat.zero_le _, rfl, Lib.hid (Below.refl _ _)⟩
  case round =>
    obtain ⟨i, hi', rfl, HQ⟩ := hrel
    have zr := HQ.out.size
    replace BA := Lib.hid (BA.out.below HQ.out hq1)
    replace BS := Lib.hid (BS.out.below HQ.out hq2)
    replace HA := Lib.hid (Rep.below (R := AcctR) HA.out HQ.out hq3)
    replace HA5 := Lib.hid (Rep.below (R := AcctR) HA5.out HQ.out hq4)
    replace HB : Hid (Below w.heap.size w wr) := Lib.hid (HB.out.trans (HQ.out.mono (by omega)))
    by_cases hin : i < hs5.length
    rotate_left
    · obtain rfl : i = hs5.length := by omega
      go_wp2
      go_ret
      exact ⟨by first | rfl | simp, HB.out⟩
    obtain ⟨x, hx⟩ : ∃ x, hs5[i]? = some x := ⟨_, List.getElem?_eq_getElem hin⟩
    obtain ⟨a1, o1, rfl, hal, d0, d1, d2⟩ := HRD.out i x hx
    have d0 := (HQ.out.cell (p := ⟨a1, _, none⟩) (show a1 < w6.heap.size by omega)).trans d0
    have d1 := (HQ.out.cell (p := ⟨a1, _, none⟩) (show a1 < w6.heap.size by omega)).trans d1
    have d2 := (HQ.out.cell (p := ⟨a1, _, none⟩) (show a1 < w6.heap.size by omega)).trans d2
    have g1 : (i : Int) < (hs5.length : Int) := by omega
    have g2 : 0 ≤ (i : Int) := by omega
    have hmx : x ∈ aH (acctSwept (id, lim, pos, most, sum, hs, (sp, hd, cs, ss), sl) now) := by rw [← HS.out]; exact List.mem_of_getElem? hx
    have hxs : x.1.size ≤ maxLen := by have := HFW5.out.hi x (List.mem_of_getElem? hx); unfold maxLen; omega
    obtain ⟨-, ha1, ha2, -⟩ := hold_in (swept_ok HOK.out HTM.out) hmx
    have HCF := Lib.hid (cap_facts (last := last) HOK.out HTM.out HN.out.1 (show n ≤ 9007199254740992 by have := HN.out.2; omega) hmx)
    clear hx hmx
    obtain ⟨xi, xa, xd⟩ := x
    try simp only at d0 d1 d2 hxs HCF ha1 ha2
    go_upto_region 10 with fail
    obtain ⟨w101, hW⟩ : ∃ V, V = wr.alloc (.cells #[.string xi, .int .i64 xa, .int .i64 xd] 33) := ⟨_, rfl⟩
    have bx : bk w101 wr.heap.size 33 [.string xi, .int .i64 xa, .int .i64 xd] := by rw [hW]; exact bk.new wr _ _
    have hb : Below wr.heap.size wr w101 := by rw [hW]; exact (Below.refl _ _).alloc (Nat.le_refl _) _
    rw [← hW]
    clear hW
    have z101 := bx.lt
    have y101 := hb.size
    replace BA := Lib.hid (BA.out.below hb (by omega))
    replace BS := Lib.hid (BS.out.below hb (by omega))
    replace HA := Lib.hid (Rep.below (R := AcctR) HA.out hb (by omega))
    replace HA5 := Lib.hid (Rep.below (R := AcctR) HA5.out hb (by omega))
    replace HQ := Lib.hid (HQ.out.trans (hb.mono (by omega)))
    replace HB : Hid (Below w.heap.size w w101) := Lib.hid (HB.out.trans (hb.mono (by omega)))
    have BH := Lib.hid bx
    clear hb bx
    clear d0 d1 d2 g1 g2
    have HC := Lib.hid (implCapture_any w1.heap.size _ _ _ _ (id, lim, pos, most, sum, hs, (sp, hd, cs, ss), sl) xi n last now w101 (HH.out _ HB.out) (few_small HFW.out) (few_big HFW.out) HA.out (by omega) hxs)
    try simp only [aId, aLim, aPos, aMost, aSum] at HC
    have HFW1 := Lib.hid (few_cap (id, lim, pos, most, sum, hs, (sp, hd, cs, ss), sl) xi n last now)
    obtain ⟨⟨⟨id1, lim1, pos1, most1, sum1, hs1, ⟨sp1, hd1, cs1, ss1⟩, sl1⟩, k1⟩, hr1⟩ : ∃ r, r = capL (id, lim, pos, most, sum, hs, (sp, hd, cs, ss), sl) xi n last now := ⟨_, rfl⟩
    rw [← hr1] at HC HCF HFW1
    clear hr1
    obtain ⟨⟨p0, p1, p2, p3, p4, p5, p6, p7, p8, p9, p10⟩, -⟩ := BA.out.eleven
    obtain ⟨q0, q1, q2⟩ := BH.out.cells3
    go_wp2_with fail
    refine (HC.out).mono ?_
    rintro e w102 ⟨vh, vc, vs, vl, rfl, hm, hb⟩
    have z102 := hb.size
    replace BA := Lib.hid (BA.out.below hb (by omega))
    replace BS := Lib.hid (BS.out.below hb (by omega))
    replace HA := Lib.hid (Rep.below (R := AcctR) HA.out hb (by omega))
    replace HA5 := Lib.hid (Rep.below (R := AcctR) HA5.out hb (by omega))
    replace BH := Lib.hid (BH.out.below hb (by omega))
    replace HQ := Lib.hid (HQ.out.trans (hb.mono (by omega)))
    replace HB : Hid (Below w.heap.size w w102) := Lib.hid (HB.out.trans (hb.mono (by omega)))
    clear hb HC p0 p1 p2 p3 p4 p5 p6 p7 p8 p9 p10 q0 q1 q2
    try simp only [aId, aLim, aPos, aMost, aSum]
    obtain ⟨xh, xc, xs, xl, hcs, r1, r2, r3, r4⟩ := acct_rd hm.mine.rd
    try simp only [aCells, List.cons.injEq, and_true, true_and] at hcs
    obtain ⟨rfl, rfl, rfl, rfl⟩ := hcs
    obtain ⟨AH1, cH1, rfl, -⟩ := Rep.slice_form r1
    obtain ⟨AL1, cL1, rfl, -⟩ := Rep.slice_form r4
    obtain ⟨AC1, cC1, rfl, -⟩ := r2.form
    obtain ⟨AS1, cS1, rfl, -⟩ := r3.form
    try simp only [aH, aS]
    have HA1 := Lib.hid hm.mine.rd
    clear r1 r2 r3 r4 hm
    go_upto_region 11 with fail
    obtain ⟨w103, hW⟩ : ∃ V, V = w102.alloc (.cells #[.string id1, .int .i64 lim1, .int .i64 pos1, .int .i64 most1, .int .i64 sum1, .slice AH1 hs1.length cH1, .int .i64 sp1, .int .i64 hd1, .slice AC1 cs1.length cC1, .slice AS1 ss1.length cS1, .slice AL1 sl1.length cL1] 29) := ⟨_, rfl⟩
    have bx : bk w103 w102.heap.size 29 [.string id1, .int .i64 lim1, .int .i64 pos1, .int .i64 most1, .int .i64 sum1, .slice AH1 hs1.length cH1, .int .i64 sp1, .int .i64 hd1, .slice AC1 cs1.length cC1, .slice AS1 ss1.length cS1, .slice AL1 sl1.length cL1] := by rw [hW]; exact bk.new w102 _ _
    have hb : Below w102.heap.size w102 w103 := by rw [hW]; exact (Below.refl _ _).alloc (Nat.le_refl _) _
    rw [← hW]
    clear hW
    have z103 := bx.lt
    have y103 := hb.size
    replace BA := Lib.hid (BA.out.below hb (by omega))
    replace BS := Lib.hid (BS.out.below hb (by omega))
    replace HA := Lib.hid (Rep.below (R := AcctR) HA.out hb (by omega))
    replace HA5 := Lib.hid (Rep.below (R := AcctR) HA5.out hb (by omega))
    replace BH := Lib.hid (BH.out.below hb (by omega))
    replace HA1 := Lib.hid (Rep.below (R := AcctR) HA1.out hb (by omega))
    replace HQ := Lib.hid (HQ.out.trans (hb.mono (by omega)))
    replace HB : Hid (Below w.heap.size w w103) := Lib.hid (HB.out.trans (hb.mono (by omega)))
    have BM := Lib.hid bx
    clear hb bx
    try simp only [aH, aPos] at HCF
    by_cases hk : k1 = 0
    rotate_left
    · have hne : (k1 != 0) = true := by simpa using hk
      have hne2 : (k1 == 0) = false := by simpa using hk
      have hle : decide (n ≤ xa) = false := decide_eq_false fun h => hk (HCF.out.1.2 h)
      obtain ⟨q0, q1, q2⟩ := BH.out.cells3
      clear hk HCF
      go_wp2
      go_roundw
      case rel => exact ⟨i + 1, by omega, by go_num, HQ⟩
      case measure => simp [intOf] <;> omega
    subst hk
    have hle0 : n ≤ xa := HCF.out.1.1 rfl
    have hle : decide (n ≤ xa) = true := decide_eq_true hle0
    obtain ⟨hp, hok1, hab, hr0, hr1⟩ := HCF.out.2 rfl
    clear HCF
    have hnu := acctOk_nums HOK.out
    try simp only [aLim, aPos] at hnu
    have hw1 : IntKind.i64.wrap (pos + n) = pos + n := IntWalk.i64_in _ (by have := HN.out; omega)
    have hw2 : IntKind.i64.wrap (xa - n) = xa - n := IntWalk.i64_in _ (by have := HN.out; omega)
    clear hnu
    have HRR := Lib.hid (And.intro hr0 hr1)
    have HOK1 := Lib.hid hok1
    have HP := Lib.hid hp
    clear hr0 hr1 hok1 hp
    obtain ⟨xh, xc, xs, xl, hcs, y1, -, -, -⟩ := acct_rd HA1.out
    try simp only [aCells, List.cons.injEq, and_true, true_and] at hcs
    obtain ⟨rfl, -, -, -⟩ := hcs
    try simp only [aH] at y1
    have HBQ : Hid (Below w103.heap.size w103 w103) := Lib.hid (Below.refl _ _)
    obtain ⟨fh, hfh⟩ : ∃ r, r = findH hs1 xi := ⟨_, rfl⟩
    rw [← hfh] at hab
    have HFH := Lib.hid hfh
    have HR1 := Lib.hid (holds_rd y1)
    clear hfh y1
    have HAB := Lib.hid hab
    clear hab
    obtain ⟨xh, xc, xs, xl, hcs, y1, -, -, -⟩ := acct_rd HA1.out
    try simp only [aCells, List.cons.injEq, and_true, true_and] at hcs
    obtain ⟨rfl, -, -, -⟩ := hcs
    try simp only [aH] at y1
    have HC := Lib.hid (specHoldAt_any w102.heap.size _ hs1 xi w103 (Nat.le_trans HFW1.out.h (by omega)) y1 (by omega))
    clear y1
    rw [← HFH.out] at HC
    obtain ⟨⟨m0, m1, m2, m3, m4, m5, m6, m7, m8, m9, m10⟩, -⟩ := BM.out.eleven
    obtain ⟨q0, q1, q2⟩ := BH.out.cells3
    go_wp2_with fail
    refine (HC.out).mono ?_
    rintro e w104 ⟨rfl, hb⟩
    have z104 := hb.size
    replace BA := Lib.hid (BA.out.below hb (by omega))
    replace BS := Lib.hid (BS.out.below hb (by omega))
    replace HA := Lib.hid (Rep.below (R := AcctR) HA.out hb (by omega))
    replace HA5 := Lib.hid (Rep.below (R := AcctR) HA5.out hb (by omega))
    replace BH := Lib.hid (BH.out.below hb (by omega))
    replace HA1 := Lib.hid (Rep.below (R := AcctR) HA1.out hb (by omega))
    replace BM := Lib.hid (BM.out.below hb (by omega))
    replace HQ := Lib.hid (HQ.out.trans (hb.mono (by omega)))
    replace HBQ := Lib.hid (HBQ.out.trans (hb.mono (by omega)))
    replace HB : Hid (Below w.heap.size w w104) := Lib.hid (HB.out.trans (hb.mono (by omega)))
    clear hb HC m0 m1 m2 m3 m4 m5 m6 m7 m8 m9 m10 q0 q1 q2
    have hbq : w102.heap.size ≤ w103.heap.size := by omega
    obtain ⟨r1, hr1e⟩ : ∃ r, r = roomOf (id1, lim1, pos1, most1, sum1, hs1, (sp1, hd1, cs1, ss1), sl1) now := ⟨_, rfl⟩
    obtain ⟨rm, hrme⟩ : ∃ r, r = roomOf (id, lim, pos, most, sum, hs, (sp, hd, cs, ss), sl) now := ⟨_, rfl⟩
    rw [← hr1e, ← hrme] at HRR
    have HR1E := Lib.hid hr1e
    have HRME := Lib.hid hrme
    clear hr1e hrme
    rcases HAB.out with ⟨h1, h2⟩ | ⟨h1, h2, k, h3, h4⟩
    · clear HAB HFH
      have hf1 : decide (fh < 0) = true := decide_eq_true h1
      have hf2 : decide (fh ≥ 0) = false := decide_eq_false (by omega)
      cases last
      · obtain rfl : n = xa := by rcases h2 with h2 | h2; cases h2; exact h2
        clear h2
        have HAO := Lib.hid (fun V (hV : Ext w104 V) => implAcctOk_any w102.heap.size _ _ _ _ (id1, lim1, pos1, most1, sum1, hs1, (sp1, hd1, cs1, ss1), sl1) V (HH.out V (HB.out.trans (hV.below.mono (by omega)))) (few_small HFW1.out) (few_big HFW1.out) (Rep.below (R := AcctR) HA1.out hV.below (by omega)) (Nat.le_trans (by omega) hV.below.size))
        rw [HOK1.out] at HAO
        try simp only [aId, aLim, aPos, aMost, aSum] at HAO
        have hpn : (pos1 != pos + n) = false := by simp [HP.out]
        go_upto_region 15 with fail
        have A2 := Lib.hid (BA.out.eleven.1.2.2.1)
        have B0 := Lib.hid (BM.out.eleven.1.1)
        have B1 := Lib.hid (BM.out.eleven.1.2.1)
        have B2 := Lib.hid (BM.out.eleven.1.2.2.1)
        have B3 := Lib.hid (BM.out.eleven.1.2.2.2.1)
        have B4 := Lib.hid (BM.out.eleven.1.2.2.2.2.1)
        have B5 := Lib.hid (BM.out.eleven.1.2.2.2.2.2.1)
        have B6 := Lib.hid (BM.out.eleven.1.2.2.2.2.2.2.1)
        have B7 := Lib.hid (BM.out.eleven.1.2.2.2.2.2.2.2.1)
        have B8 := Lib.hid (BM.out.eleven.1.2.2.2.2.2.2.2.2.1)
        have B9 := Lib.hid (BM.out.eleven.1.2.2.2.2.2.2.2.2.2.1)
        have B10 := Lib.hid (BM.out.eleven.1.2.2.2.2.2.2.2.2.2.2)
        have H0 := Lib.hid (BH.out.cells3.1)
        have H1 := Lib.hid (BH.out.cells3.2.1)
        have H2 := Lib.hid (BH.out.cells3.2.2)
        refine quiet_region (C := Ext w104) (by kernel_rfl) (by kernel_rfl) (Ext.refl w104).drew ?_
        repeat (first
          | go_big_quiet_skip
          | (go_big_quiet_want; go_big_quiet_op; go_big_quiet_on)
          | (go_big_quiet_want; go_big_quiet_op; apply Exists.intro; refine ⟨fun _ _ => rfl, ?_⟩; go_big_quiet_on)
          | (go_big_quiet_want
             apply Exists.intro
             refine ⟨fun V hV => ?_, ?_⟩
             (have l2 := hV.cell A2.out (by omega)
              unfold Oper.quietAt
              go_simp
              rfl)
             try simp only [Act.put, List.setIfInBounds_toArray, List.set_cons_zero, List.set_cons_succ]
             go_big_quiet_on)
          | (go_big_quiet_want
             apply Exists.intro
             refine ⟨fun V hV => ?_, ?_⟩
             (have l0 := hV.cell B0.out (by omega)
              have l1 := hV.cell B1.out (by omega)
              have l2 := hV.cell B2.out (by omega)
              have l3 := hV.cell B3.out (by omega)
              have l4 := hV.cell B4.out (by omega)
              have l5 := hV.cell B5.out (by omega)
              have l6 := hV.cell B6.out (by omega)
              have l7 := hV.cell B7.out (by omega)
              have l8 := hV.cell B8.out (by omega)
              have l9 := hV.cell B9.out (by omega)
              have l10 := hV.cell B10.out (by omega)
              unfold Oper.quietAt
              go_simp
              rfl)
             try simp only [Act.put, List.setIfInBounds_toArray, List.set_cons_zero, List.set_cons_succ]
             go_big_quiet_on)
          | (go_big_quiet_want
             apply Exists.intro
             refine ⟨fun V hV => ?_, ?_⟩
             (have l0 := hV.cell H0.out (by omega)
              have l1 := hV.cell H1.out (by omega)
              have l2 := hV.cell H2.out (by omega)
              unfold Oper.quietAt
              go_simp
              rfl)
             try simp only [Act.put, List.setIfInBounds_toArray, List.set_cons_zero, List.set_cons_succ]
             go_big_quiet_on)
          | (go_big_quiet_want
             apply Exists.intro
             refine ⟨fun V hV => ?_, ?_⟩
             (unfold Oper.quietAt
              go_simp
              go_at_call 32
              (with_reducible refine (HAO.out V hV).mono ?_)
              rintro e w4 ⟨rfl, hb4⟩
              exact ⟨rfl, hV.step hb4⟩)
             try simp only [Act.put, List.setIfInBounds_toArray, List.set_cons_zero, List.set_cons_succ]
             go_big_quiet_on)
          | fail)
        refine wpQuiet_nil ?_
        intro w77 hw77
        obtain ⟨w105, hW⟩ : ∃ V, V = w77 := ⟨_, rfl⟩
        rw [← hW] at hw77 ⊢
        clear hW
        have hb : Below w104.heap.size w104 w105 := hw77.below
        have z105 := hb.size
        replace BA := Lib.hid (BA.out.below hb (by omega))
        replace BS := Lib.hid (BS.out.below hb (by omega))
        replace HA := Lib.hid (Rep.below (R := AcctR) HA.out hb (by omega))
        replace HA5 := Lib.hid (Rep.below (R := AcctR) HA5.out hb (by omega))
        replace BH := Lib.hid (BH.out.below hb (by omega))
        replace HA1 := Lib.hid (Rep.below (R := AcctR) HA1.out hb (by omega))
        replace BM := Lib.hid (BM.out.below hb (by omega))
        replace HQ := Lib.hid (HQ.out.trans (hb.mono (by omega)))
        replace HBQ := Lib.hid (HBQ.out.trans (hb.mono (by omega)))
        replace HB : Hid (Below w.heap.size w w105) := Lib.hid (HB.out.trans (hb.mono (by omega)))
        clear hb hw77 A2 B0 B1 B2 B3 B4 B5 B6 B7 B8 B9 B10 H0 H1 H2
        clear HAO hpn
        have HRA : Hid (∀ V, Ext w105 V → Calls Tryz.prog 22 #[.agg #[.string id, .int .i64 lim, .int .i64 pos, .int .i64 most, .int .i64 sum, .slice AH hs.length cH, .int .i64 sp, .int .i64 hd, .slice AC cs.length cC, .slice AS ss.length cS, .slice AL sl.length cL], .int .i64 now] V fun e w' => e = .returned (.int .i64 rm) ∧ Below V.heap.size V w') := Lib.hid fun V hV => by have := implRoom_any w1.heap.size _ _ _ _ (id, lim, pos, most, sum, hs, (sp, hd, cs, ss), sl) now V (HH.out V (HB.out.trans (hV.below.mono (by omega)))) (few_small HFW.out) (few_big HFW.out) (Rep.below (R := AcctR) HA.out hV.below (by omega)) (Nat.le_trans (by omega) hV.below.size); rw [← HRME.out] at this; exact this
        have HRM := Lib.hid (fun V (hV : Ext w105 V) => implRoom_any w102.heap.size _ _ _ _ (id1, lim1, pos1, most1, sum1, hs1, (sp1, hd1, cs1, ss1), sl1) now V (HH.out V (HB.out.trans (hV.below.mono (by omega)))) (few_small HFW1.out) (few_big HFW1.out) (Rep.below (R := AcctR) HA1.out hV.below (by omega)) (Nat.le_trans (by omega) hV.below.size))
        rw [← HR1E.out] at HRM
        try simp only [aId, aLim, aPos, aMost, aSum] at HRM
        have hlt : decide (r1 < rm) = false := decide_eq_false (by have := HRR.out.1; omega)
        have heq : r1 = rm := HRR.out.2 (by trivial)
        rw [heq] at HRM hlt
        go_upto_region 17 with fail
        have A0 := Lib.hid (BA.out.eleven.1.1)
        have A1 := Lib.hid (BA.out.eleven.1.2.1)
        have A2 := Lib.hid (BA.out.eleven.1.2.2.1)
        have A3 := Lib.hid (BA.out.eleven.1.2.2.2.1)
        have A4 := Lib.hid (BA.out.eleven.1.2.2.2.2.1)
        have A5 := Lib.hid (BA.out.eleven.1.2.2.2.2.2.1)
        have A6 := Lib.hid (BA.out.eleven.1.2.2.2.2.2.2.1)
        have A7 := Lib.hid (BA.out.eleven.1.2.2.2.2.2.2.2.1)
        have A8 := Lib.hid (BA.out.eleven.1.2.2.2.2.2.2.2.2.1)
        have A9 := Lib.hid (BA.out.eleven.1.2.2.2.2.2.2.2.2.2.1)
        have A10 := Lib.hid (BA.out.eleven.1.2.2.2.2.2.2.2.2.2.2)
        have B0 := Lib.hid (BM.out.eleven.1.1)
        have B1 := Lib.hid (BM.out.eleven.1.2.1)
        have B2 := Lib.hid (BM.out.eleven.1.2.2.1)
        have B3 := Lib.hid (BM.out.eleven.1.2.2.2.1)
        have B4 := Lib.hid (BM.out.eleven.1.2.2.2.2.1)
        have B5 := Lib.hid (BM.out.eleven.1.2.2.2.2.2.1)
        have B6 := Lib.hid (BM.out.eleven.1.2.2.2.2.2.2.1)
        have B7 := Lib.hid (BM.out.eleven.1.2.2.2.2.2.2.2.1)
        have B8 := Lib.hid (BM.out.eleven.1.2.2.2.2.2.2.2.2.1)
        have B9 := Lib.hid (BM.out.eleven.1.2.2.2.2.2.2.2.2.2.1)
        have B10 := Lib.hid (BM.out.eleven.1.2.2.2.2.2.2.2.2.2.2)
        refine quiet_region (C := Ext w105) (by kernel_rfl) (by kernel_rfl) (Ext.refl w105).drew ?_
        repeat (first
          | go_big_quiet_skip
          | (go_big_quiet_want; go_big_quiet_op; go_big_quiet_on)
          | (go_big_quiet_want; go_big_quiet_op; apply Exists.intro; refine ⟨fun _ _ => rfl, ?_⟩; go_big_quiet_on)
          | (go_big_quiet_want
             apply Exists.intro
             refine ⟨fun V hV => ?_, ?_⟩
             (have l0 := hV.cell A0.out (by omega)
              have l1 := hV.cell A1.out (by omega)
              have l2 := hV.cell A2.out (by omega)
              have l3 := hV.cell A3.out (by omega)
              have l4 := hV.cell A4.out (by omega)
              have l5 := hV.cell A5.out (by omega)
              have l6 := hV.cell A6.out (by omega)
              have l7 := hV.cell A7.out (by omega)
              have l8 := hV.cell A8.out (by omega)
              have l9 := hV.cell A9.out (by omega)
              have l10 := hV.cell A10.out (by omega)
              unfold Oper.quietAt
              go_simp
              rfl)
             try simp only [Act.put, List.setIfInBounds_toArray, List.set_cons_zero, List.set_cons_succ]
             go_big_quiet_on)
          | (go_big_quiet_want
             apply Exists.intro
             refine ⟨fun V hV => ?_, ?_⟩
             (have l0 := hV.cell B0.out (by omega)
              have l1 := hV.cell B1.out (by omega)
              have l2 := hV.cell B2.out (by omega)
              have l3 := hV.cell B3.out (by omega)
              have l4 := hV.cell B4.out (by omega)
              have l5 := hV.cell B5.out (by omega)
              have l6 := hV.cell B6.out (by omega)
              have l7 := hV.cell B7.out (by omega)
              have l8 := hV.cell B8.out (by omega)
              have l9 := hV.cell B9.out (by omega)
              have l10 := hV.cell B10.out (by omega)
              unfold Oper.quietAt
              go_simp
              rfl)
             try simp only [Act.put, List.setIfInBounds_toArray, List.set_cons_zero, List.set_cons_succ]
             go_big_quiet_on)
          | (go_big_quiet_want
             apply Exists.intro
             refine ⟨fun V hV => ?_, ?_⟩
             (unfold Oper.quietAt
              go_simp
              go_at_call 22
              (with_reducible refine (HRA.out V hV).mono ?_)
              rintro e w4 ⟨rfl, hb4⟩
              exact ⟨rfl, hV.step hb4⟩)
             try simp only [Act.put, List.setIfInBounds_toArray, List.set_cons_zero, List.set_cons_succ]
             go_big_quiet_on)
          | (go_big_quiet_want
             apply Exists.intro
             refine ⟨fun V hV => ?_, ?_⟩
             (unfold Oper.quietAt
              go_simp
              go_at_call 22
              (with_reducible refine (HRM.out V hV).mono ?_)
              rintro e w4 ⟨rfl, hb4⟩
              exact ⟨rfl, hV.step hb4⟩)
             try simp only [Act.put, List.setIfInBounds_toArray, List.set_cons_zero, List.set_cons_succ]
             go_big_quiet_on)
          | fail)
        refine wpQuiet_nil ?_
        intro w77 hw77
        obtain ⟨w106, hW⟩ : ∃ V, V = w77 := ⟨_, rfl⟩
        rw [← hW] at hw77 ⊢
        clear hW
        have hb : Below w105.heap.size w105 w106 := hw77.below
        have z106 := hb.size
        replace BA := Lib.hid (BA.out.below hb (by omega))
        replace BS := Lib.hid (BS.out.below hb (by omega))
        replace HA := Lib.hid (Rep.below (R := AcctR) HA.out hb (by omega))
        replace HA5 := Lib.hid (Rep.below (R := AcctR) HA5.out hb (by omega))
        replace BH := Lib.hid (BH.out.below hb (by omega))
        replace HA1 := Lib.hid (Rep.below (R := AcctR) HA1.out hb (by omega))
        replace BM := Lib.hid (BM.out.below hb (by omega))
        replace HQ := Lib.hid (HQ.out.trans (hb.mono (by omega)))
        replace HBQ := Lib.hid (HBQ.out.trans (hb.mono (by omega)))
        replace HB : Hid (Below w.heap.size w w106) := Lib.hid (HB.out.trans (hb.mono (by omega)))
        clear hb hw77 A0 A1 A2 A3 A4 A5 A6 A7 A8 A9 A10 B0 B1 B2 B3 B4 B5 B6 B7 B8 B9 B10
        clear HRA HRM
        go_wp2
        go_roundw
        case rel => exact ⟨i + 1, by omega, by go_num, HQ⟩
        case measure => simp [intOf] <;> omega
      · clear h2
        have HAO := Lib.hid (fun V (hV : Ext w104 V) => implAcctOk_any w102.heap.size _ _ _ _ (id1, lim1, pos1, most1, sum1, hs1, (sp1, hd1, cs1, ss1), sl1) V (HH.out V (HB.out.trans (hV.below.mono (by omega)))) (few_small HFW1.out) (few_big HFW1.out) (Rep.below (R := AcctR) HA1.out hV.below (by omega)) (Nat.le_trans (by omega) hV.below.size))
        rw [HOK1.out] at HAO
        try simp only [aId, aLim, aPos, aMost, aSum] at HAO
        have hpn : (pos1 != pos + n) = false := by simp [HP.out]
        go_upto_region 15 with fail
        have A2 := Lib.hid (BA.out.eleven.1.2.2.1)
        have B0 := Lib.hid (BM.out.eleven.1.1)
        have B1 := Lib.hid (BM.out.eleven.1.2.1)
        have B2 := Lib.hid (BM.out.eleven.1.2.2.1)
        have B3 := Lib.hid (BM.out.eleven.1.2.2.2.1)
        have B4 := Lib.hid (BM.out.eleven.1.2.2.2.2.1)
        have B5 := Lib.hid (BM.out.eleven.1.2.2.2.2.2.1)
        have B6 := Lib.hid (BM.out.eleven.1.2.2.2.2.2.2.1)
        have B7 := Lib.hid (BM.out.eleven.1.2.2.2.2.2.2.2.1)
        have B8 := Lib.hid (BM.out.eleven.1.2.2.2.2.2.2.2.2.1)
        have B9 := Lib.hid (BM.out.eleven.1.2.2.2.2.2.2.2.2.2.1)
        have B10 := Lib.hid (BM.out.eleven.1.2.2.2.2.2.2.2.2.2.2)
        have H0 := Lib.hid (BH.out.cells3.1)
        have H1 := Lib.hid (BH.out.cells3.2.1)
        have H2 := Lib.hid (BH.out.cells3.2.2)
        refine quiet_region (C := Ext w104) (by kernel_rfl) (by kernel_rfl) (Ext.refl w104).drew ?_
        repeat (first
          | go_big_quiet_skip
          | (go_big_quiet_want; go_big_quiet_op; go_big_quiet_on)
          | (go_big_quiet_want; go_big_quiet_op; apply Exists.intro; refine ⟨fun _ _ => rfl, ?_⟩; go_big_quiet_on)
          | (go_big_quiet_want
             apply Exists.intro
             refine ⟨fun V hV => ?_, ?_⟩
             (have l2 := hV.cell A2.out (by omega)
              unfold Oper.quietAt
              go_simp
              rfl)
             try simp only [Act.put, List.setIfInBounds_toArray, List.set_cons_zero, List.set_cons_succ]
             go_big_quiet_on)
          | (go_big_quiet_want
             apply Exists.intro
             refine ⟨fun V hV => ?_, ?_⟩
             (have l0 := hV.cell B0.out (by omega)
              have l1 := hV.cell B1.out (by omega)
              have l2 := hV.cell B2.out (by omega)
              have l3 := hV.cell B3.out (by omega)
              have l4 := hV.cell B4.out (by omega)
              have l5 := hV.cell B5.out (by omega)
              have l6 := hV.cell B6.out (by omega)
              have l7 := hV.cell B7.out (by omega)
              have l8 := hV.cell B8.out (by omega)
              have l9 := hV.cell B9.out (by omega)
              have l10 := hV.cell B10.out (by omega)
              unfold Oper.quietAt
              go_simp
              rfl)
             try simp only [Act.put, List.setIfInBounds_toArray, List.set_cons_zero, List.set_cons_succ]
             go_big_quiet_on)
          | (go_big_quiet_want
             apply Exists.intro
             refine ⟨fun V hV => ?_, ?_⟩
             (have l0 := hV.cell H0.out (by omega)
              have l1 := hV.cell H1.out (by omega)
              have l2 := hV.cell H2.out (by omega)
              unfold Oper.quietAt
              go_simp
              rfl)
             try simp only [Act.put, List.setIfInBounds_toArray, List.set_cons_zero, List.set_cons_succ]
             go_big_quiet_on)
          | (go_big_quiet_want
             apply Exists.intro
             refine ⟨fun V hV => ?_, ?_⟩
             (unfold Oper.quietAt
              go_simp
              go_at_call 32
              (with_reducible refine (HAO.out V hV).mono ?_)
              rintro e w4 ⟨rfl, hb4⟩
              exact ⟨rfl, hV.step hb4⟩)
             try simp only [Act.put, List.setIfInBounds_toArray, List.set_cons_zero, List.set_cons_succ]
             go_big_quiet_on)
          | fail)
        refine wpQuiet_nil ?_
        intro w77 hw77
        obtain ⟨w105, hW⟩ : ∃ V, V = w77 := ⟨_, rfl⟩
        rw [← hW] at hw77 ⊢
        clear hW
        have hb : Below w104.heap.size w104 w105 := hw77.below
        have z105 := hb.size
        replace BA := Lib.hid (BA.out.below hb (by omega))
        replace BS := Lib.hid (BS.out.below hb (by omega))
        replace HA := Lib.hid (Rep.below (R := AcctR) HA.out hb (by omega))
        replace HA5 := Lib.hid (Rep.below (R := AcctR) HA5.out hb (by omega))
        replace BH := Lib.hid (BH.out.below hb (by omega))
        replace HA1 := Lib.hid (Rep.below (R := AcctR) HA1.out hb (by omega))
        replace BM := Lib.hid (BM.out.below hb (by omega))
        replace HQ := Lib.hid (HQ.out.trans (hb.mono (by omega)))
        replace HBQ := Lib.hid (HBQ.out.trans (hb.mono (by omega)))
        replace HB : Hid (Below w.heap.size w w105) := Lib.hid (HB.out.trans (hb.mono (by omega)))
        clear hb hw77 A2 B0 B1 B2 B3 B4 B5 B6 B7 B8 B9 B10 H0 H1 H2
        clear HAO hpn
        have HRA : Hid (∀ V, Ext w105 V → Calls Tryz.prog 22 #[.agg #[.string id, .int .i64 lim, .int .i64 pos, .int .i64 most, .int .i64 sum, .slice AH hs.length cH, .int .i64 sp, .int .i64 hd, .slice AC cs.length cC, .slice AS ss.length cS, .slice AL sl.length cL], .int .i64 now] V fun e w' => e = .returned (.int .i64 rm) ∧ Below V.heap.size V w') := Lib.hid fun V hV => by have := implRoom_any w1.heap.size _ _ _ _ (id, lim, pos, most, sum, hs, (sp, hd, cs, ss), sl) now V (HH.out V (HB.out.trans (hV.below.mono (by omega)))) (few_small HFW.out) (few_big HFW.out) (Rep.below (R := AcctR) HA.out hV.below (by omega)) (Nat.le_trans (by omega) hV.below.size); rw [← HRME.out] at this; exact this
        have HRM := Lib.hid (fun V (hV : Ext w105 V) => implRoom_any w102.heap.size _ _ _ _ (id1, lim1, pos1, most1, sum1, hs1, (sp1, hd1, cs1, ss1), sl1) now V (HH.out V (HB.out.trans (hV.below.mono (by omega)))) (few_small HFW1.out) (few_big HFW1.out) (Rep.below (R := AcctR) HA1.out hV.below (by omega)) (Nat.le_trans (by omega) hV.below.size))
        rw [← HR1E.out] at HRM
        try simp only [aId, aLim, aPos, aMost, aSum] at HRM
        have hlt : decide (r1 < rm) = false := decide_eq_false (by have := HRR.out.1; omega)
        go_upto_region 17 with fail
        have A0 := Lib.hid (BA.out.eleven.1.1)
        have A1 := Lib.hid (BA.out.eleven.1.2.1)
        have A2 := Lib.hid (BA.out.eleven.1.2.2.1)
        have A3 := Lib.hid (BA.out.eleven.1.2.2.2.1)
        have A4 := Lib.hid (BA.out.eleven.1.2.2.2.2.1)
        have A5 := Lib.hid (BA.out.eleven.1.2.2.2.2.2.1)
        have A6 := Lib.hid (BA.out.eleven.1.2.2.2.2.2.2.1)
        have A7 := Lib.hid (BA.out.eleven.1.2.2.2.2.2.2.2.1)
        have A8 := Lib.hid (BA.out.eleven.1.2.2.2.2.2.2.2.2.1)
        have A9 := Lib.hid (BA.out.eleven.1.2.2.2.2.2.2.2.2.2.1)
        have A10 := Lib.hid (BA.out.eleven.1.2.2.2.2.2.2.2.2.2.2)
        have B0 := Lib.hid (BM.out.eleven.1.1)
        have B1 := Lib.hid (BM.out.eleven.1.2.1)
        have B2 := Lib.hid (BM.out.eleven.1.2.2.1)
        have B3 := Lib.hid (BM.out.eleven.1.2.2.2.1)
        have B4 := Lib.hid (BM.out.eleven.1.2.2.2.2.1)
        have B5 := Lib.hid (BM.out.eleven.1.2.2.2.2.2.1)
        have B6 := Lib.hid (BM.out.eleven.1.2.2.2.2.2.2.1)
        have B7 := Lib.hid (BM.out.eleven.1.2.2.2.2.2.2.2.1)
        have B8 := Lib.hid (BM.out.eleven.1.2.2.2.2.2.2.2.2.1)
        have B9 := Lib.hid (BM.out.eleven.1.2.2.2.2.2.2.2.2.2.1)
        have B10 := Lib.hid (BM.out.eleven.1.2.2.2.2.2.2.2.2.2.2)
        refine quiet_region (C := Ext w105) (by kernel_rfl) (by kernel_rfl) (Ext.refl w105).drew ?_
        repeat (first
          | go_big_quiet_skip
          | (go_big_quiet_want; go_big_quiet_op; go_big_quiet_on)
          | (go_big_quiet_want; go_big_quiet_op; apply Exists.intro; refine ⟨fun _ _ => rfl, ?_⟩; go_big_quiet_on)
          | (go_big_quiet_want
             apply Exists.intro
             refine ⟨fun V hV => ?_, ?_⟩
             (have l0 := hV.cell A0.out (by omega)
              have l1 := hV.cell A1.out (by omega)
              have l2 := hV.cell A2.out (by omega)
              have l3 := hV.cell A3.out (by omega)
              have l4 := hV.cell A4.out (by omega)
              have l5 := hV.cell A5.out (by omega)
              have l6 := hV.cell A6.out (by omega)
              have l7 := hV.cell A7.out (by omega)
              have l8 := hV.cell A8.out (by omega)
              have l9 := hV.cell A9.out (by omega)
              have l10 := hV.cell A10.out (by omega)
              unfold Oper.quietAt
              go_simp
              rfl)
             try simp only [Act.put, List.setIfInBounds_toArray, List.set_cons_zero, List.set_cons_succ]
             go_big_quiet_on)
          | (go_big_quiet_want
             apply Exists.intro
             refine ⟨fun V hV => ?_, ?_⟩
             (have l0 := hV.cell B0.out (by omega)
              have l1 := hV.cell B1.out (by omega)
              have l2 := hV.cell B2.out (by omega)
              have l3 := hV.cell B3.out (by omega)
              have l4 := hV.cell B4.out (by omega)
              have l5 := hV.cell B5.out (by omega)
              have l6 := hV.cell B6.out (by omega)
              have l7 := hV.cell B7.out (by omega)
              have l8 := hV.cell B8.out (by omega)
              have l9 := hV.cell B9.out (by omega)
              have l10 := hV.cell B10.out (by omega)
              unfold Oper.quietAt
              go_simp
              rfl)
             try simp only [Act.put, List.setIfInBounds_toArray, List.set_cons_zero, List.set_cons_succ]
             go_big_quiet_on)
          | (go_big_quiet_want
             apply Exists.intro
             refine ⟨fun V hV => ?_, ?_⟩
             (unfold Oper.quietAt
              go_simp
              go_at_call 22
              (with_reducible refine (HRA.out V hV).mono ?_)
              rintro e w4 ⟨rfl, hb4⟩
              exact ⟨rfl, hV.step hb4⟩)
             try simp only [Act.put, List.setIfInBounds_toArray, List.set_cons_zero, List.set_cons_succ]
             go_big_quiet_on)
          | (go_big_quiet_want
             apply Exists.intro
             refine ⟨fun V hV => ?_, ?_⟩
             (unfold Oper.quietAt
              go_simp
              go_at_call 22
              (with_reducible refine (HRM.out V hV).mono ?_)
              rintro e w4 ⟨rfl, hb4⟩
              exact ⟨rfl, hV.step hb4⟩)
             try simp only [Act.put, List.setIfInBounds_toArray, List.set_cons_zero, List.set_cons_succ]
             go_big_quiet_on)
          | fail)
        refine wpQuiet_nil ?_
        intro w77 hw77
        obtain ⟨w106, hW⟩ : ∃ V, V = w77 := ⟨_, rfl⟩
        rw [← hW] at hw77 ⊢
        clear hW
        have hb : Below w105.heap.size w105 w106 := hw77.below
        have z106 := hb.size
        replace BA := Lib.hid (BA.out.below hb (by omega))
        replace BS := Lib.hid (BS.out.below hb (by omega))
        replace HA := Lib.hid (Rep.below (R := AcctR) HA.out hb (by omega))
        replace HA5 := Lib.hid (Rep.below (R := AcctR) HA5.out hb (by omega))
        replace BH := Lib.hid (BH.out.below hb (by omega))
        replace HA1 := Lib.hid (Rep.below (R := AcctR) HA1.out hb (by omega))
        replace BM := Lib.hid (BM.out.below hb (by omega))
        replace HQ := Lib.hid (HQ.out.trans (hb.mono (by omega)))
        replace HBQ := Lib.hid (HBQ.out.trans (hb.mono (by omega)))
        replace HB : Hid (Below w.heap.size w w106) := Lib.hid (HB.out.trans (hb.mono (by omega)))
        clear hb hw77 A0 A1 A2 A3 A4 A5 A6 A7 A8 A9 A10 B0 B1 B2 B3 B4 B5 B6 B7 B8 B9 B10
        clear HRA HRM
        go_wp2
        go_roundw
        case rel => exact ⟨i + 1, by omega, by go_num, HQ⟩
        case measure => simp [intOf] <;> omega
    · subst h1
      obtain ⟨A0, c0, hv0, -, hr1⟩ := HR1.out
      try simp only [Value.slice.injEq, true_and] at hv0
      obtain ⟨rfl, rfl⟩ := hv0
      obtain ⟨b1, o1, rfl, hbl, d0, d1, d2⟩ := hr1 k _ h4
      have hf1 : decide ((k : Int) < 0) = false := decide_eq_false (by omega)
      have hf2 : decide ((k : Int) ≥ 0) = true := decide_eq_true (by omega)
      have hnx : (n == xa) = false := by simpa using h2
      have hkl := (List.getElem?_eq_some_iff.1 h4).1
      have k1 : (k : Int) < (hs1.length : Int) := by omega
      have k2 : 0 ≤ (k : Int) := by omega
      clear hr1 h4 h2 HAB HFH HR1
      subst h3
      have E0 := Lib.hid ((HBQ.out.cell (p := ⟨b1, _, none⟩) (show b1 < w103.heap.size by omega)).trans d0)
      have E1 := Lib.hid ((HBQ.out.cell (p := ⟨b1, _, none⟩) (show b1 < w103.heap.size by omega)).trans d1)
      have E2 := Lib.hid ((HBQ.out.cell (p := ⟨b1, _, none⟩) (show b1 < w103.heap.size by omega)).trans d2)
      have hbl2 : b1 < w104.heap.size := by omega
      clear d0 d1 d2
      have HAO := Lib.hid (fun V (hV : Ext w104 V) => implAcctOk_any w102.heap.size _ _ _ _ (id1, lim1, pos1, most1, sum1, hs1, (sp1, hd1, cs1, ss1), sl1) V (HH.out V (HB.out.trans (hV.below.mono (by omega)))) (few_small HFW1.out) (few_big HFW1.out) (Rep.below (R := AcctR) HA1.out hV.below (by omega)) (Nat.le_trans (by omega) hV.below.size))
      rw [HOK1.out] at HAO
      try simp only [aId, aLim, aPos, aMost, aSum] at HAO
      have hpn : (pos1 != pos + n) = false := by simp [HP.out]
      go_upto_region 15 with fail
      have A2 := Lib.hid (BA.out.eleven.1.2.2.1)
      have B0 := Lib.hid (BM.out.eleven.1.1)
      have B1 := Lib.hid (BM.out.eleven.1.2.1)
      have B2 := Lib.hid (BM.out.eleven.1.2.2.1)
      have B3 := Lib.hid (BM.out.eleven.1.2.2.2.1)
      have B4 := Lib.hid (BM.out.eleven.1.2.2.2.2.1)
      have B5 := Lib.hid (BM.out.eleven.1.2.2.2.2.2.1)
      have B6 := Lib.hid (BM.out.eleven.1.2.2.2.2.2.2.1)
      have B7 := Lib.hid (BM.out.eleven.1.2.2.2.2.2.2.2.1)
      have B8 := Lib.hid (BM.out.eleven.1.2.2.2.2.2.2.2.2.1)
      have B9 := Lib.hid (BM.out.eleven.1.2.2.2.2.2.2.2.2.2.1)
      have B10 := Lib.hid (BM.out.eleven.1.2.2.2.2.2.2.2.2.2.2)
      have H0 := Lib.hid (BH.out.cells3.1)
      have H1 := Lib.hid (BH.out.cells3.2.1)
      have H2 := Lib.hid (BH.out.cells3.2.2)
      refine quiet_region (C := Ext w104) (by kernel_rfl) (by kernel_rfl) (Ext.refl w104).drew ?_
      repeat (first
        | go_big_quiet_skip
        | (go_big_quiet_want; go_big_quiet_op; go_big_quiet_on)
        | (go_big_quiet_want; go_big_quiet_op; apply Exists.intro; refine ⟨fun _ _ => rfl, ?_⟩; go_big_quiet_on)
        | (go_big_quiet_want
           apply Exists.intro
           refine ⟨fun V hV => ?_, ?_⟩
           (have l2 := hV.cell A2.out (by omega)
            unfold Oper.quietAt
            go_simp
            rfl)
           try simp only [Act.put, List.setIfInBounds_toArray, List.set_cons_zero, List.set_cons_succ]
           go_big_quiet_on)
        | (go_big_quiet_want
           apply Exists.intro
           refine ⟨fun V hV => ?_, ?_⟩
           (have l0 := hV.cell B0.out (by omega)
            have l1 := hV.cell B1.out (by omega)
            have l2 := hV.cell B2.out (by omega)
            have l3 := hV.cell B3.out (by omega)
            have l4 := hV.cell B4.out (by omega)
            have l5 := hV.cell B5.out (by omega)
            have l6 := hV.cell B6.out (by omega)
            have l7 := hV.cell B7.out (by omega)
            have l8 := hV.cell B8.out (by omega)
            have l9 := hV.cell B9.out (by omega)
            have l10 := hV.cell B10.out (by omega)
            unfold Oper.quietAt
            go_simp
            rfl)
           try simp only [Act.put, List.setIfInBounds_toArray, List.set_cons_zero, List.set_cons_succ]
           go_big_quiet_on)
        | (go_big_quiet_want
           apply Exists.intro
           refine ⟨fun V hV => ?_, ?_⟩
           (have l0 := hV.cell H0.out (by omega)
            have l1 := hV.cell H1.out (by omega)
            have l2 := hV.cell H2.out (by omega)
            unfold Oper.quietAt
            go_simp
            rfl)
           try simp only [Act.put, List.setIfInBounds_toArray, List.set_cons_zero, List.set_cons_succ]
           go_big_quiet_on)
        | (go_big_quiet_want
           apply Exists.intro
           refine ⟨fun V hV => ?_, ?_⟩
           (have x0 := hV.cell E0.out (by omega)
            have x1 := hV.cell E1.out (by omega)
            have x2 := hV.cell E2.out (by omega)
            unfold Oper.quietAt
            go_simp
            rfl)
           try simp only [Act.put, List.setIfInBounds_toArray, List.set_cons_zero, List.set_cons_succ]
           go_big_quiet_on)
        | (go_big_quiet_want
           apply Exists.intro
           refine ⟨fun V hV => ?_, ?_⟩
           (unfold Oper.quietAt
            go_simp
            go_at_call 32
            (with_reducible refine (HAO.out V hV).mono ?_)
            rintro e w4 ⟨rfl, hb4⟩
            exact ⟨rfl, hV.step hb4⟩)
           try simp only [Act.put, List.setIfInBounds_toArray, List.set_cons_zero, List.set_cons_succ]
           go_big_quiet_on)
        | fail)
      refine wpQuiet_nil ?_
      intro w77 hw77
      obtain ⟨w105, hW⟩ : ∃ V, V = w77 := ⟨_, rfl⟩
      rw [← hW] at hw77 ⊢
      clear hW
      have hb : Below w104.heap.size w104 w105 := hw77.below
      have z105 := hb.size
      replace BA := Lib.hid (BA.out.below hb (by omega))
      replace BS := Lib.hid (BS.out.below hb (by omega))
      replace HA := Lib.hid (Rep.below (R := AcctR) HA.out hb (by omega))
      replace HA5 := Lib.hid (Rep.below (R := AcctR) HA5.out hb (by omega))
      replace BH := Lib.hid (BH.out.below hb (by omega))
      replace HA1 := Lib.hid (Rep.below (R := AcctR) HA1.out hb (by omega))
      replace BM := Lib.hid (BM.out.below hb (by omega))
      replace HQ := Lib.hid (HQ.out.trans (hb.mono (by omega)))
      replace HBQ := Lib.hid (HBQ.out.trans (hb.mono (by omega)))
      replace HB : Hid (Below w.heap.size w w105) := Lib.hid (HB.out.trans (hb.mono (by omega)))
      clear hb hw77 A2 B0 B1 B2 B3 B4 B5 B6 B7 B8 B9 B10 H0 H1 H2
      clear HAO hpn
      have HRA : Hid (∀ V, Ext w105 V → Calls Tryz.prog 22 #[.agg #[.string id, .int .i64 lim, .int .i64 pos, .int .i64 most, .int .i64 sum, .slice AH hs.length cH, .int .i64 sp, .int .i64 hd, .slice AC cs.length cC, .slice AS ss.length cS, .slice AL sl.length cL], .int .i64 now] V fun e w' => e = .returned (.int .i64 rm) ∧ Below V.heap.size V w') := Lib.hid fun V hV => by have := implRoom_any w1.heap.size _ _ _ _ (id, lim, pos, most, sum, hs, (sp, hd, cs, ss), sl) now V (HH.out V (HB.out.trans (hV.below.mono (by omega)))) (few_small HFW.out) (few_big HFW.out) (Rep.below (R := AcctR) HA.out hV.below (by omega)) (Nat.le_trans (by omega) hV.below.size); rw [← HRME.out] at this; exact this
      have HRM := Lib.hid (fun V (hV : Ext w105 V) => implRoom_any w102.heap.size _ _ _ _ (id1, lim1, pos1, most1, sum1, hs1, (sp1, hd1, cs1, ss1), sl1) now V (HH.out V (HB.out.trans (hV.below.mono (by omega)))) (few_small HFW1.out) (few_big HFW1.out) (Rep.below (R := AcctR) HA1.out hV.below (by omega)) (Nat.le_trans (by omega) hV.below.size))
      rw [← HR1E.out] at HRM
      try simp only [aId, aLim, aPos, aMost, aSum] at HRM
      have hlt : decide (r1 < rm) = false := decide_eq_false (by have := HRR.out.1; omega)
      have heq : r1 = rm := HRR.out.2 (by trivial)
      rw [heq] at HRM hlt
      go_upto_region 17 with fail
      have A0 := Lib.hid (BA.out.eleven.1.1)
      have A1 := Lib.hid (BA.out.eleven.1.2.1)
      have A2 := Lib.hid (BA.out.eleven.1.2.2.1)
      have A3 := Lib.hid (BA.out.eleven.1.2.2.2.1)
      have A4 := Lib.hid (BA.out.eleven.1.2.2.2.2.1)
      have A5 := Lib.hid (BA.out.eleven.1.2.2.2.2.2.1)
      have A6 := Lib.hid (BA.out.eleven.1.2.2.2.2.2.2.1)
      have A7 := Lib.hid (BA.out.eleven.1.2.2.2.2.2.2.2.1)
      have A8 := Lib.hid (BA.out.eleven.1.2.2.2.2.2.2.2.2.1)
      have A9 := Lib.hid (BA.out.eleven.1.2.2.2.2.2.2.2.2.2.1)
      have A10 := Lib.hid (BA.out.eleven.1.2.2.2.2.2.2.2.2.2.2)
      have B0 := Lib.hid (BM.out.eleven.1.1)
      have B1 := Lib.hid (BM.out.eleven.1.2.1)
      have B2 := Lib.hid (BM.out.eleven.1.2.2.1)
      have B3 := Lib.hid (BM.out.eleven.1.2.2.2.1)
      have B4 := Lib.hid (BM.out.eleven.1.2.2.2.2.1)
      have B5 := Lib.hid (BM.out.eleven.1.2.2.2.2.2.1)
      have B6 := Lib.hid (BM.out.eleven.1.2.2.2.2.2.2.1)
      have B7 := Lib.hid (BM.out.eleven.1.2.2.2.2.2.2.2.1)
      have B8 := Lib.hid (BM.out.eleven.1.2.2.2.2.2.2.2.2.1)
      have B9 := Lib.hid (BM.out.eleven.1.2.2.2.2.2.2.2.2.2.1)
      have B10 := Lib.hid (BM.out.eleven.1.2.2.2.2.2.2.2.2.2.2)
      refine quiet_region (C := Ext w105) (by kernel_rfl) (by kernel_rfl) (Ext.refl w105).drew ?_
      repeat (first
        | go_big_quiet_skip
        | (go_big_quiet_want; go_big_quiet_op; go_big_quiet_on)
        | (go_big_quiet_want; go_big_quiet_op; apply Exists.intro; refine ⟨fun _ _ => rfl, ?_⟩; go_big_quiet_on)
        | (go_big_quiet_want
           apply Exists.intro
           refine ⟨fun V hV => ?_, ?_⟩
           (have l0 := hV.cell A0.out (by omega)
            have l1 := hV.cell A1.out (by omega)
            have l2 := hV.cell A2.out (by omega)
            have l3 := hV.cell A3.out (by omega)
            have l4 := hV.cell A4.out (by omega)
            have l5 := hV.cell A5.out (by omega)
            have l6 := hV.cell A6.out (by omega)
            have l7 := hV.cell A7.out (by omega)
            have l8 := hV.cell A8.out (by omega)
            have l9 := hV.cell A9.out (by omega)
            have l10 := hV.cell A10.out (by omega)
            unfold Oper.quietAt
            go_simp
            rfl)
           try simp only [Act.put, List.setIfInBounds_toArray, List.set_cons_zero, List.set_cons_succ]
           go_big_quiet_on)
        | (go_big_quiet_want
           apply Exists.intro
           refine ⟨fun V hV => ?_, ?_⟩
           (have l0 := hV.cell B0.out (by omega)
            have l1 := hV.cell B1.out (by omega)
            have l2 := hV.cell B2.out (by omega)
            have l3 := hV.cell B3.out (by omega)
            have l4 := hV.cell B4.out (by omega)
            have l5 := hV.cell B5.out (by omega)
            have l6 := hV.cell B6.out (by omega)
            have l7 := hV.cell B7.out (by omega)
            have l8 := hV.cell B8.out (by omega)
            have l9 := hV.cell B9.out (by omega)
            have l10 := hV.cell B10.out (by omega)
            unfold Oper.quietAt
            go_simp
            rfl)
           try simp only [Act.put, List.setIfInBounds_toArray, List.set_cons_zero, List.set_cons_succ]
           go_big_quiet_on)
        | (go_big_quiet_want
           apply Exists.intro
           refine ⟨fun V hV => ?_, ?_⟩
           (unfold Oper.quietAt
            go_simp
            go_at_call 22
            (with_reducible refine (HRA.out V hV).mono ?_)
            rintro e w4 ⟨rfl, hb4⟩
            exact ⟨rfl, hV.step hb4⟩)
           try simp only [Act.put, List.setIfInBounds_toArray, List.set_cons_zero, List.set_cons_succ]
           go_big_quiet_on)
        | (go_big_quiet_want
           apply Exists.intro
           refine ⟨fun V hV => ?_, ?_⟩
           (unfold Oper.quietAt
            go_simp
            go_at_call 22
            (with_reducible refine (HRM.out V hV).mono ?_)
            rintro e w4 ⟨rfl, hb4⟩
            exact ⟨rfl, hV.step hb4⟩)
           try simp only [Act.put, List.setIfInBounds_toArray, List.set_cons_zero, List.set_cons_succ]
           go_big_quiet_on)
        | fail)
      refine wpQuiet_nil ?_
      intro w77 hw77
      obtain ⟨w106, hW⟩ : ∃ V, V = w77 := ⟨_, rfl⟩
      rw [← hW] at hw77 ⊢
      clear hW
      have hb : Below w105.heap.size w105 w106 := hw77.below
      have z106 := hb.size
      replace BA := Lib.hid (BA.out.below hb (by omega))
      replace BS := Lib.hid (BS.out.below hb (by omega))
      replace HA := Lib.hid (Rep.below (R := AcctR) HA.out hb (by omega))
      replace HA5 := Lib.hid (Rep.below (R := AcctR) HA5.out hb (by omega))
      replace BH := Lib.hid (BH.out.below hb (by omega))
      replace HA1 := Lib.hid (Rep.below (R := AcctR) HA1.out hb (by omega))
      replace BM := Lib.hid (BM.out.below hb (by omega))
      replace HQ := Lib.hid (HQ.out.trans (hb.mono (by omega)))
      replace HBQ := Lib.hid (HBQ.out.trans (hb.mono (by omega)))
      replace HB : Hid (Below w.heap.size w w106) := Lib.hid (HB.out.trans (hb.mono (by omega)))
      clear hb hw77 A0 A1 A2 A3 A4 A5 A6 A7 A8 A9 A10 B0 B1 B2 B3 B4 B5 B6 B7 B8 B9 B10
      clear HRA HRM
      go_wp2
      go_roundw
      case rel => exact ⟨i + 1, by omega, by go_num, HQ⟩
      case measure => simp [intOf] <;> omega
end Go.Proofs.YtnmijppppcgobaaGreatDoor.fnCapture
