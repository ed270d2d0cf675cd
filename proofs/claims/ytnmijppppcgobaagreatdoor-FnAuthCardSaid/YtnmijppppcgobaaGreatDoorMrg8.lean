/- holdOf, withHold, withoutHold, withRequest of the program; no conditions but the library's handle. -/
import Derived.Test.YtnmijppppcgobaaGreatDoorMrg7
import Derived.Test.YtnmijppppcgobaaGreatDoorMrg6
import Derived.Test.YtnmijppppcgobaaGreatDoorMrg4
import Derived.Test.YtnmijppppcgobaaGreatDoorMrg5
import Derived.Test.YtnmijppppcgobaaGreatDoorMrg2
import Derived.Deep.RegionHeld3
import Derived.Test.YtnmijppppcgobaaGreatDoorMrg3
import Derived.Test.YtnmijppppcgobaaGreatDoorMrg1
import Derived.OpenVars
import Derived.Carry
set_option linter.unusedVariables false
namespace Go.Proofs.YtnmijppppcgobaaGreatDoor
open Go.ChangeShapes Go.WideShapes Go.ChangeAt Go.RowKit

/-- the hold with this id, or none -/
def holdFor (l : List HoldD) (id : ByteArray) : HoldD := if findH l id < 0 then noH else l.getD (findH l id).toNat noH
set_option maxRecDepth 100000 in
theorem findH_cases (l : List HoldD) (id : ByteArray) : findH l id < 0 ∨ ∃ k : Nat, findH l id = (k : Int) ∧ k < l.length := by
  unfold findH
  cases h : l.findIdx? (fun x => decide (x.1 = id)) with
  | none => exact .inl (by decide)
  | some i => exact .inr ⟨i, rfl, (List.findIdx?_eq_some_iff_getElem.1 h).1⟩

set_option maxRecDepth 100000 in
set_option maxHeartbeats 4000000 in
theorem implHoldOf_any (hi : Nat) (vh vc vs vl : Value) (a : AcctD) (id : ByteArray) (w : World) (hz : acctSmall 1048576 a) (hrd : AcctR.rd hi w (aCells a vh vc vs vl) a) (hh : hi ≤ w.heap.size) :
    Calls Tryz.prog 54 #[.agg #[.string (aId a), .int .i64 (aLim a), .int .i64 (aPos a), .int .i64 (aMost a), .int .i64 (aSum a), vh, .int .i64 (aR a).1, .int .i64 (aR a).2.1, vc, vs, vl], .string id] w fun e w' => e = .returned (.agg #[.string (holdFor (aH a) id).1, .int .i64 (holdFor (aH a) id).2.1, .int .i64 (holdFor (aH a) id).2.2]) ∧ Below w.heap.size w w' := by
  obtain ⟨vh0, vc0, vs0, vl0, hcs, r1, r2, r3, r4⟩ := acct_rd hrd
  simp only [aCells, List.cons.injEq, and_true, true_and] at hcs
  obtain ⟨rfl, rfl, rfl, rfl⟩ := hcs
  have HHA := Lib.hid (fun W (hW : Below w.heap.size w W) => implHoldAt_any hi _ (aH a) id W hz.h (Rep.below (R := HoldsR) r1 hW hh) (Nat.le_trans hh hW.size))
  have hfc := findH_cases (aH a) id
  have hln := hz.h
  obtain ⟨AH, cH, rfl, -⟩ := Rep.slice_form r1
  obtain ⟨AC, cC, rfl, -⟩ := r2.form
  obtain ⟨AS, cS, rfl, -⟩ := r3.form
  obtain ⟨AL, cL, rfl, -⟩ := Rep.slice_form r4
  have HSAT := Lib.hid (holds_at r1)
  clear r1 r2 r3 r4 hrd hz
  have HFO : Hid (holdFor (aH a) id = if findH (aH a) id < 0 then noH else (aH a).getD (findH (aH a) id).toNat noH) := Lib.hid rfl
  generalize findH (aH a) id = fv at HHA HFO hfc
  generalize holdFor (aH a) id = x at HFO ⊢
  obtain ⟨id0, lim, pos, most, sum, hs, ⟨rs, rh, cs, ss⟩, sl⟩ := a
  simp only [aId, aLim, aPos, aMost, aSum, aH, aS] at HHA HFO HSAT hfc hln ⊢
  have HAT := HSAT
  clear HSAT
  go_enter Tryz.func54, Tryz.ntmps54
  go_upto_region 1 with fail
  obtain ⟨W, hW⟩ : ∃ W, W = (w.alloc (.cells #[.string id0, .int .i64 lim, .int .i64 pos, .int .i64 most, .int .i64 sum, .slice AH hs.length cH, .int .i64 rs, .int .i64 rh, .slice AC cs.length cC, .slice AS ss.length cS, .slice AL sl.length cL] 29)).alloc (.cells #[.string ⟨#[]⟩, .int .i64 0, .int .i64 0] 33) := ⟨_, rfl⟩
  have b0 : bk W w.heap.size 29 [.string id0, .int .i64 lim, .int .i64 pos, .int .i64 most, .int .i64 sum, .slice AH hs.length cH, .int .i64 rs, .int .i64 rh, .slice AC cs.length cC, .slice AS ss.length cS, .slice AL sl.length cL] := by rw [hW]; exact (bk.new w _ _).alloc _
  have b1 : bk W (w.heap.size + 1) 33 [.string ⟨#[]⟩, .int .i64 0, .int .i64 0] := by rw [hW]; simpa using bk.new (w.alloc _) 33 [.string ⟨#[]⟩, .int .i64 0, .int .i64 0]
  have HB0 : Hid (Below w.heap.size w W) := Lib.hid (by rw [hW]; exact ((Below.refl _ _).alloc (Nat.le_refl _) _).alloc (by simp) _)
  have y0 : w.heap.size + 2 ≤ W.heap.size := by rw [hW]; simp
  rw [← hW]
  clear hW
  obtain ⟨⟨p0, p1, p2, p3, p4, p5, p6, p7, p8, p9, p10⟩, -⟩ := b0.eleven
  have B0 := Lib.hid b0
  have B1 := Lib.hid b1
  clear b0 b1
  go_wp2_with fail
  refine (HHA.out W HB0.out).mono ?_
  rintro e w1 ⟨rfl, hb1⟩
  have z1 := hb1.size
  have HB1 : Hid (Below w.heap.size w w1) := Lib.hid (HB0.out.trans (hb1.mono HB0.out.size))
  have c0 := B0.out.below hb1 (by omega)
  have c1 := B1.out.below hb1 (by omega)
  clear hb1 HB0 HHA B0 B1 p0 p1 p2 p3 p4 p5 p6 p7 p8 p9 p10
  obtain ⟨⟨p0, p1, p2, p3, p4, p5, p6, p7, p8, p9, p10⟩, -⟩ := c0.eleven
  have q0 := c1.cell 0
  have q1 := c1.cell 1
  have q2 := c1.cell 2
  have f0 := c1.frozen 0
  have f1 := c1.frozen 1
  have f2 := c1.frozen 2
  clear c0 c1
  simp only [List.getElem?_cons_zero, List.getElem?_cons_succ] at q0 q1 q2
  by_cases g : fv < 0
  · have HX : Hid (x = (⟨#[]⟩, 0, 0)) := Lib.hid (by rw [HFO.out, if_pos g]; rfl)
    clear HFO HAT hfc
    go_wp2
    refine bodyPost_ret (v := .agg #[.string ⟨#[]⟩, .int .i64 0, .int .i64 0]) (by simp [results, Tryz.results54, go_sem, q0, q1, q2]) rfl ?_
    rw [HX.out]
    refine ⟨rfl, ?_⟩
    repeat (refine Below.setCell ?_ (by simp <;> omega) _)
    exact HB1.out
  · obtain ⟨k, rfl, hk⟩ : ∃ k : Nat, fv = (k : Int) ∧ k < hs.length := by rcases hfc with hfc | ⟨k, h1, h2⟩; (exact absurd (by omega) g); exact ⟨k, h1, h2⟩
    obtain ⟨y, hy⟩ : ∃ y, hs[k]? = some y := ⟨_, List.getElem?_eq_getElem hk⟩
    obtain ⟨b, off, rfl, hb, ha⟩ := HAT.out k y hy
    have HX : Hid (x = y) := Lib.hid (by rw [HFO.out, if_neg g, Int.toNat_natCast, List.getD_eq_getElem?_getD, hy]; rfl)
    have u0 := (HB1.out.cell (p := ⟨b, off + k * 3, none⟩) (show b < w.heap.size by omega)).trans (ha 0 _ rfl)
    have u1 := (HB1.out.cell (p := ⟨b, off + k * 3 + 1, none⟩) (show b < w.heap.size by omega)).trans (ha 1 _ rfl)
    have u2 := (HB1.out.cell (p := ⟨b, off + k * 3 + 2, none⟩) (show b < w.heap.size by omega)).trans (ha 2 _ rfl)
    have g1 : (k : Int) < (hs.length : Int) := by omega
    have g2 : 0 ≤ (k : Int) := by omega
    clear HFO HAT hfc ha hy
    go_wp2
    refine bodyPost_ret (v := .agg #[.string y.1, .int .i64 y.2.1, .int .i64 y.2.2]) (by simp [results, Tryz.results54, go_sem, q0, q1, q2]) rfl ?_
    rw [HX.out]
    refine ⟨rfl, ?_⟩
    repeat (refine Below.setCell ?_ (by simp <;> omega) _)
    exact HB1.out
set_option maxRecDepth 100000 in
set_option maxHeartbeats 4000000 in
theorem implWithHold_any (lo hi : Nat) (vh vc vs vl : Value) (a : AcctD) (x : HoldD) (w : World) (hs : ∀ y ∈ aH a, y.1.size ≤ maxLen) (hx : x.1.size ≤ maxLen) (hz : acctSmall 1048576 a) (hI : AcctI lo hi w vh vc vs vl a) (hh : hi ≤ w.heap.size) (hlo : lo ≤ hi) :
    Calls Tryz.prog 62 #[.agg #[.string (aId a), .int .i64 (aLim a), .int .i64 (aPos a), .int .i64 (aMost a), .int .i64 (aSum a), vh, .int .i64 (aR a).1, .int .i64 (aR a).2.1, vc, vs, vl], .agg #[.string x.1, .int .i64 x.2.1, .int .i64 x.2.2]] w fun e w' => ∃ vh2, e = .returned (.agg #[.string (aId a), .int .i64 (aLim a), .int .i64 (aPos a), .int .i64 (aMost a), .int .i64 (aSum a), vh2, .int .i64 (aR a).1, .int .i64 (aR a).2.1, vc, vs, vl]) ∧ AcctI lo w'.heap.size w' vh2 vc vs vl (setH a ((putH (aH a) x).1)) ∧ Below w.heap.size w w' := by
  have hrd := hI.mine.rd
  obtain ⟨vh0, vc0, vs0, vl0, hcs, r1, r2, r3, r4⟩ := acct_rd hrd
  simp only [aCells, List.cons.injEq, and_true, true_and] at hcs
  obtain ⟨rfl, rfl, rfl, rfl⟩ := hcs
  have HC := Lib.hid (fun W (hW : Below w.heap.size w W) => implHoldPut_any hi _ (aH a) x W hz.h hs hx (Rep.below (R := HoldsR) r1 hW hh) (Nat.le_trans hh hW.size))
  obtain ⟨AH, cH, rfl, -⟩ := Rep.slice_form r1
  obtain ⟨AC, cC, rfl, -⟩ := r2.form
  obtain ⟨AS, cS, rfl, -⟩ := r3.form
  obtain ⟨AL, cL, rfl, -⟩ := Rep.slice_form r4
  clear r1 r2 r3 r4 hrd
  clear hz hs
  have HI := Lib.hid hI
  clear hI
  obtain ⟨⟨ls, okp⟩, hls⟩ : ∃ q, q = putH (aH a) x := ⟨_, rfl⟩
  rw [← hls] at HC ⊢
  clear hls hx
  obtain ⟨id0, lim, pos, most, sum, hs, ⟨rs, rh, cs, ss⟩, sl⟩ := a
  simp only [aId, aLim, aPos, aMost, aSum, aH, aR, aS, setH] at HI HC ⊢
  go_enter Tryz.func62, Tryz.ntmps62
  go_upto_region 1 with fail
  obtain ⟨W, hW⟩ : ∃ W, W = ((w.alloc (.cells #[.string id0, .int .i64 lim, .int .i64 pos, .int .i64 most, .int .i64 sum, .slice AH hs.length cH, .int .i64 rs, .int .i64 rh, .slice AC cs.length cC, .slice AS ss.length cS, .slice AL sl.length cL] 29)).alloc (.cells #[.string x.1, .int .i64 x.2.1, .int .i64 x.2.2] 33)).alloc (.cells #[.string ⟨#[]⟩, .int .i64 0, .int .i64 0, .int .i64 0, .int .i64 0, .slice none 0 0, .int .i64 0, .int .i64 0, .slice none 0 0, .slice none 0 0, .slice none 0 0] 29) := ⟨_, rfl⟩
  have b0 : bk W w.heap.size 29 [.string id0, .int .i64 lim, .int .i64 pos, .int .i64 most, .int .i64 sum, .slice AH hs.length cH, .int .i64 rs, .int .i64 rh, .slice AC cs.length cC, .slice AS ss.length cS, .slice AL sl.length cL] := by rw [hW]; exact (((bk.new w _ _).alloc _).alloc _)
  have b1 : bk W (w.heap.size + 1) 33 [.string x.1, .int .i64 x.2.1, .int .i64 x.2.2] := by rw [hW]; simpa [Nat.add_assoc] using ((bk.new (w.alloc (.cells #[.string id0, .int .i64 lim, .int .i64 pos, .int .i64 most, .int .i64 sum, .slice AH hs.length cH, .int .i64 rs, .int .i64 rh, .slice AC cs.length cC, .slice AS ss.length cS, .slice AL sl.length cL] 29)) 33 [.string x.1, .int .i64 x.2.1, .int .i64 x.2.2]).alloc _)
  have bR : bk W (w.heap.size + 1 + 1) 29 [.string ⟨#[]⟩, .int .i64 0, .int .i64 0, .int .i64 0, .int .i64 0, .slice none 0 0, .int .i64 0, .int .i64 0, .slice none 0 0, .slice none 0 0, .slice none 0 0] := by rw [hW]; simpa [Nat.add_assoc] using bk.new ((w.alloc (.cells #[.string id0, .int .i64 lim, .int .i64 pos, .int .i64 most, .int .i64 sum, .slice AH hs.length cH, .int .i64 rs, .int .i64 rh, .slice AC cs.length cC, .slice AS ss.length cS, .slice AL sl.length cL] 29)).alloc (.cells #[.string x.1, .int .i64 x.2.1, .int .i64 x.2.2] 33)) 29 [.string ⟨#[]⟩, .int .i64 0, .int .i64 0, .int .i64 0, .int .i64 0, .slice none 0 0, .int .i64 0, .int .i64 0, .slice none 0 0, .slice none 0 0, .slice none 0 0]
  have HB0 : Hid (Below w.heap.size w W) := Lib.hid (by rw [hW]; exact (((Below.refl _ _).alloc (Nat.le_refl _) _).alloc (by simp <;> omega) _).alloc (by simp <;> omega) _)
  have y0 : w.heap.size + 3 ≤ W.heap.size := by rw [hW]; simp
  rw [← hW]
  clear hW
  obtain ⟨⟨p0, p1, p2, p3, p4, p5, p6, p7, p8, p9, p10⟩, -⟩ := b0.eleven
  have q00 := b1.cell 0
  have q01 := b1.cell 1
  have q02 := b1.cell 2
  simp only [List.getElem?_cons_zero, List.getElem?_cons_succ] at q00 q01 q02
  clear b1
  have B0 := Lib.hid b0
  have BR := Lib.hid bR
  clear b0 bR
  go_wp2_with fail
  refine (HC.out W HB0.out).mono ?_
  rintro e w1 ⟨u, rfl, hu, hb1⟩
  obtain ⟨AN, cN, rfl, -⟩ := Rep.slice_form hu.rd
  have z1 := hb1.size
  have HU := Lib.hid hu
  have HM1 := Lib.hid (HI.out.below (HB0.out.trans (hb1.mono HB0.out.size)) hh)
  have HB1 : Hid (Below w.heap.size w w1) := Lib.hid (HB0.out.trans (hb1.mono HB0.out.size))
  have C0 := Lib.hid (B0.out.below hb1 (by omega))
  have CR := Lib.hid (BR.out.below hb1 (by omega))
  clear hu hb1 HB0 HI HC B0 BR p0 p1 p2 p3 p4 p5 p6 p7 p8 p9 p10 q00 q01 q02
  obtain ⟨⟨p0, p1, p2, p3, p4, p5, p6, p7, p8, p9, p10⟩, f0, f1, f2, f3, f4, f5, f6, f7, f8, f9, f10⟩ := C0.out.eleven
  have hq := (C0.out.set 5 (.slice AN ls.length cN))
  have ht5 := ((Turned.refl w.heap.size (w.heap.size + 1) w1).set (b := w.heap.size) 5 (.slice AN ls.length cN) (by omega) (by omega))
  go_upto_region 2 with fail
  obtain ⟨W6, hW6⟩ : ∃ W6, W6 = (w1.setCell ⟨w.heap.size, 5, none⟩ (.slice AN ls.length cN)) := ⟨_, rfl⟩
  rw [← hW6] at hq ht5 ⊢
  clear hW6
  have z6 := ht5.size
  have HM6 := Lib.hid (HM1.out.turned ht5 (.inl hh) (by omega))
  have HU6 := Lib.hid (HU.out.turned ht5 (.inr (by omega)) (Nat.le_refl _))
  have HB6 := Lib.hid (HB1.out.trans (ht5.below (B := w.heap.size) (by omega) (by omega)))
  have bR := CR.out.under ht5 (by omega)
  have b2 : bk W6 w.heap.size 29 [.string id0, .int .i64 lim, .int .i64 pos, .int .i64 most, .int .i64 sum, .slice AN ls.length cN, .int .i64 rs, .int .i64 rh, .slice AC cs.length cC, .slice AS ss.length cS, .slice AL sl.length cL] := hq
  clear hq ht5 HM1 HU HB1 C0 CR p0 p1 p2 p3 p4 p5 p6 p7 p8 p9 p10 f0 f1 f2 f3 f4 f5 f6 f7 f8 f9 f10
  obtain ⟨⟨p0, p1, p2, p3, p4, p5, p6, p7, p8, p9, p10⟩, -⟩ := b2.eleven
  obtain ⟨⟨r0, r1, r2, r3, r4, r5, r6, r7, r8, r9, r10⟩, g0, g1, g2, g3, g4, g5, g6, g7, g8, g9, g10⟩ := bR.eleven
  clear b2 bR
  go_wp2
  refine bodyPost_ret (v := .agg #[.string id0, .int .i64 lim, .int .i64 pos, .int .i64 most, .int .i64 sum, .slice AN ls.length cN, .int .i64 rs, .int .i64 rh, .slice AC cs.length cC, .slice AS ss.length cS, .slice AL sl.length cL]) (by simp [results, Tryz.results62, go_sem, r0, r1, r2, r3, r4, r5, r6, r7, r8, r9, r10]) rfl ?_
  have ht := ((((((((((((Turned.refl (w.heap.size + 1 + 1) (w.heap.size + 1 + 1 + 1) W6).set (b := w.heap.size + 1 + 1) 0 (.string id0) (by omega) (by omega)).set (b := w.heap.size + 1 + 1) 1 (.int .i64 lim) (by omega) (by omega)).set (b := w.heap.size + 1 + 1) 2 (.int .i64 pos) (by omega) (by omega)).set (b := w.heap.size + 1 + 1) 3 (.int .i64 most) (by omega) (by omega)).set (b := w.heap.size + 1 + 1) 4 (.int .i64 sum) (by omega) (by omega)).set (b := w.heap.size + 1 + 1) 5 (.slice AN ls.length cN) (by omega) (by omega)).set (b := w.heap.size + 1 + 1) 6 (.int .i64 rs) (by omega) (by omega)).set (b := w.heap.size + 1 + 1) 7 (.int .i64 rh) (by omega) (by omega)).set (b := w.heap.size + 1 + 1) 8 (.slice AC cs.length cC) (by omega) (by omega)).set (b := w.heap.size + 1 + 1) 9 (.slice AS ss.length cS) (by omega) (by omega)).set (b := w.heap.size + 1 + 1) 10 (.slice AL sl.length cL) (by omega) (by omega))
  have hsz := ht.size
  refine ⟨_, rfl, swapHI (p1 := hi) (HM6.out.turned ht (.inl (by omega)) (by omega)) ?_ hlo ?_, HB6.out.trans (ht.below (by omega) (by omega))⟩
  · exact (HU6.out.turned ht (.inr (by omega)) (by omega)).mono (by omega) (by omega)
  · omega
set_option maxRecDepth 100000 in
set_option maxHeartbeats 4000000 in
theorem implWithoutHold_any (lo hi : Nat) (vh vc vs vl : Value) (a : AcctD) (id : ByteArray) (w : World) (hz : acctSmall 1048576 a) (hI : AcctI lo hi w vh vc vs vl a) (hh : hi ≤ w.heap.size) (hlo : lo ≤ hi) :
    Calls Tryz.prog 61 #[.agg #[.string (aId a), .int .i64 (aLim a), .int .i64 (aPos a), .int .i64 (aMost a), .int .i64 (aSum a), vh, .int .i64 (aR a).1, .int .i64 (aR a).2.1, vc, vs, vl], .string id] w fun e w' => ∃ vh2, e = .returned (.agg #[.string (aId a), .int .i64 (aLim a), .int .i64 (aPos a), .int .i64 (aMost a), .int .i64 (aSum a), vh2, .int .i64 (aR a).1, .int .i64 (aR a).2.1, vc, vs, vl]) ∧ AcctI lo w'.heap.size w' vh2 vc vs vl (setH a (dropL (aH a) id)) ∧ Below w.heap.size w w' := by
  have hrd := hI.mine.rd
  obtain ⟨vh0, vc0, vs0, vl0, hcs, r1, r2, r3, r4⟩ := acct_rd hrd
  simp only [aCells, List.cons.injEq, and_true, true_and] at hcs
  obtain ⟨rfl, rfl, rfl, rfl⟩ := hcs
  have HC := Lib.hid (fun W (hW : Below w.heap.size w W) => implHoldDrop_any hi _ (aH a) id W hz.h (Rep.below (R := HoldsR) r1 hW hh) (Nat.le_trans hh hW.size))
  obtain ⟨AH, cH, rfl, -⟩ := Rep.slice_form r1
  obtain ⟨AC, cC, rfl, -⟩ := r2.form
  obtain ⟨AS, cS, rfl, -⟩ := r3.form
  obtain ⟨AL, cL, rfl, -⟩ := Rep.slice_form r4
  clear r1 r2 r3 r4 hrd
  clear hz
  have HI := Lib.hid hI
  clear hI
  obtain ⟨ls, hls⟩ : ∃ q, q = dropL (aH a) id := ⟨_, rfl⟩
  rw [← hls] at HC ⊢
  clear hls
  obtain ⟨id0, lim, pos, most, sum, hs, ⟨rs, rh, cs, ss⟩, sl⟩ := a
  simp only [aId, aLim, aPos, aMost, aSum, aH, aR, aS, setH] at HI HC ⊢
  go_enter Tryz.func61, Tryz.ntmps61
  go_upto_region 1 with fail
  obtain ⟨W, hW⟩ : ∃ W, W = (w.alloc (.cells #[.string id0, .int .i64 lim, .int .i64 pos, .int .i64 most, .int .i64 sum, .slice AH hs.length cH, .int .i64 rs, .int .i64 rh, .slice AC cs.length cC, .slice AS ss.length cS, .slice AL sl.length cL] 29)).alloc (.cells #[.string ⟨#[]⟩, .int .i64 0, .int .i64 0, .int .i64 0, .int .i64 0, .slice none 0 0, .int .i64 0, .int .i64 0, .slice none 0 0, .slice none 0 0, .slice none 0 0] 29) := ⟨_, rfl⟩
  have b0 : bk W w.heap.size 29 [.string id0, .int .i64 lim, .int .i64 pos, .int .i64 most, .int .i64 sum, .slice AH hs.length cH, .int .i64 rs, .int .i64 rh, .slice AC cs.length cC, .slice AS ss.length cS, .slice AL sl.length cL] := by rw [hW]; exact ((bk.new w _ _).alloc _)
  have bR : bk W (w.heap.size + 1) 29 [.string ⟨#[]⟩, .int .i64 0, .int .i64 0, .int .i64 0, .int .i64 0, .slice none 0 0, .int .i64 0, .int .i64 0, .slice none 0 0, .slice none 0 0, .slice none 0 0] := by rw [hW]; simpa [Nat.add_assoc] using bk.new (w.alloc (.cells #[.string id0, .int .i64 lim, .int .i64 pos, .int .i64 most, .int .i64 sum, .slice AH hs.length cH, .int .i64 rs, .int .i64 rh, .slice AC cs.length cC, .slice AS ss.length cS, .slice AL sl.length cL] 29)) 29 [.string ⟨#[]⟩, .int .i64 0, .int .i64 0, .int .i64 0, .int .i64 0, .slice none 0 0, .int .i64 0, .int .i64 0, .slice none 0 0, .slice none 0 0, .slice none 0 0]
  have HB0 : Hid (Below w.heap.size w W) := Lib.hid (by rw [hW]; exact ((Below.refl _ _).alloc (Nat.le_refl _) _).alloc (by simp <;> omega) _)
  have y0 : w.heap.size + 2 ≤ W.heap.size := by rw [hW]; simp
  rw [← hW]
  clear hW
  obtain ⟨⟨p0, p1, p2, p3, p4, p5, p6, p7, p8, p9, p10⟩, -⟩ := b0.eleven
  have B0 := Lib.hid b0
  have BR := Lib.hid bR
  clear b0 bR
  go_wp2_with fail
  refine (HC.out W HB0.out).mono ?_
  rintro e w1 ⟨u, rfl, hu, hb1⟩
  obtain ⟨AN, cN, rfl, -⟩ := Rep.slice_form hu.rd
  have z1 := hb1.size
  have HU := Lib.hid hu
  have HM1 := Lib.hid (HI.out.below (HB0.out.trans (hb1.mono HB0.out.size)) hh)
  have HB1 : Hid (Below w.heap.size w w1) := Lib.hid (HB0.out.trans (hb1.mono HB0.out.size))
  have C0 := Lib.hid (B0.out.below hb1 (by omega))
  have CR := Lib.hid (BR.out.below hb1 (by omega))
  clear hu hb1 HB0 HI HC B0 BR p0 p1 p2 p3 p4 p5 p6 p7 p8 p9 p10 
  obtain ⟨⟨p0, p1, p2, p3, p4, p5, p6, p7, p8, p9, p10⟩, f0, f1, f2, f3, f4, f5, f6, f7, f8, f9, f10⟩ := C0.out.eleven
  have hq := (C0.out.set 5 (.slice AN ls.length cN))
  have ht5 := ((Turned.refl w.heap.size (w.heap.size + 1) w1).set (b := w.heap.size) 5 (.slice AN ls.length cN) (by omega) (by omega))
  go_upto_region 2 with fail
  obtain ⟨W6, hW6⟩ : ∃ W6, W6 = (w1.setCell ⟨w.heap.size, 5, none⟩ (.slice AN ls.length cN)) := ⟨_, rfl⟩
  rw [← hW6] at hq ht5 ⊢
  clear hW6
  have z6 := ht5.size
  have HM6 := Lib.hid (HM1.out.turned ht5 (.inl hh) (by omega))
  have HU6 := Lib.hid (HU.out.turned ht5 (.inr (by omega)) (Nat.le_refl _))
  have HB6 := Lib.hid (HB1.out.trans (ht5.below (B := w.heap.size) (by omega) (by omega)))
  have bR := CR.out.under ht5 (by omega)
  have b2 : bk W6 w.heap.size 29 [.string id0, .int .i64 lim, .int .i64 pos, .int .i64 most, .int .i64 sum, .slice AN ls.length cN, .int .i64 rs, .int .i64 rh, .slice AC cs.length cC, .slice AS ss.length cS, .slice AL sl.length cL] := hq
  clear hq ht5 HM1 HU HB1 C0 CR p0 p1 p2 p3 p4 p5 p6 p7 p8 p9 p10 f0 f1 f2 f3 f4 f5 f6 f7 f8 f9 f10
  obtain ⟨⟨p0, p1, p2, p3, p4, p5, p6, p7, p8, p9, p10⟩, -⟩ := b2.eleven
  obtain ⟨⟨r0, r1, r2, r3, r4, r5, r6, r7, r8, r9, r10⟩, g0, g1, g2, g3, g4, g5, g6, g7, g8, g9, g10⟩ := bR.eleven
  clear b2 bR
  go_wp2
  refine bodyPost_ret (v := .agg #[.string id0, .int .i64 lim, .int .i64 pos, .int .i64 most, .int .i64 sum, .slice AN ls.length cN, .int .i64 rs, .int .i64 rh, .slice AC cs.length cC, .slice AS ss.length cS, .slice AL sl.length cL]) (by simp [results, Tryz.results61, go_sem, r0, r1, r2, r3, r4, r5, r6, r7, r8, r9, r10]) rfl ?_
  have ht := ((((((((((((Turned.refl (w.heap.size + 1) (w.heap.size + 1 + 1) W6).set (b := w.heap.size + 1) 0 (.string id0) (by omega) (by omega)).set (b := w.heap.size + 1) 1 (.int .i64 lim) (by omega) (by omega)).set (b := w.heap.size + 1) 2 (.int .i64 pos) (by omega) (by omega)).set (b := w.heap.size + 1) 3 (.int .i64 most) (by omega) (by omega)).set (b := w.heap.size + 1) 4 (.int .i64 sum) (by omega) (by omega)).set (b := w.heap.size + 1) 5 (.slice AN ls.length cN) (by omega) (by omega)).set (b := w.heap.size + 1) 6 (.int .i64 rs) (by omega) (by omega)).set (b := w.heap.size + 1) 7 (.int .i64 rh) (by omega) (by omega)).set (b := w.heap.size + 1) 8 (.slice AC cs.length cC) (by omega) (by omega)).set (b := w.heap.size + 1) 9 (.slice AS ss.length cS) (by omega) (by omega)).set (b := w.heap.size + 1) 10 (.slice AL sl.length cL) (by omega) (by omega))
  have hsz := ht.size
  refine ⟨_, rfl, swapHI (p1 := hi) (HM6.out.turned ht (.inl (by omega)) (by omega)) ?_ hlo ?_, HB6.out.trans (ht.below (by omega) (by omega))⟩
  · exact (HU6.out.turned ht (.inr (by omega)) (by omega)).mono (by omega) (by omega)
  · omega
set_option maxRecDepth 100000 in
set_option maxHeartbeats 4000000 in
theorem implWithRequest_any (lo hi : Nat) (vh vc vs vl : Value) (a : AcctD) (n now : Int) (w : World) (hg : Handle w) (hz : acctSmall 1048576 a) (hI : AcctI lo hi w vh vc vs vl a) (hh : hi ≤ w.heap.size) (hlo : lo ≤ hi) :
    Calls Tryz.prog 64 #[.agg #[.string (aId a), .int .i64 (aLim a), .int .i64 (aPos a), .int .i64 (aMost a), .int .i64 (aSum a), vh, .int .i64 (aR a).1, .int .i64 (aR a).2.1, vc, vs, vl], .int .i64 n, .int .i64 now] w fun e w' => ∃ vc2 vs2, e = .returned (.agg #[.string (aId a), .int .i64 (aLim a), .int .i64 (aPos a), .int .i64 (aMost a), .int .i64 (aSum a), vh, .int .i64 (ringAdd (aR a) now n).1, .int .i64 (ringAdd (aR a) now n).2.1, vc2, vs2, vl]) ∧ AcctI lo w'.heap.size w' vh vc2 vs2 vl (setR a (ringAdd (aR a) now n)) ∧ Below w.heap.size w w' := by
  have hrd := hI.mine.rd
  obtain ⟨vh0, vc0, vs0, vl0, hcs, r1, r2, r3, r4⟩ := acct_rd hrd
  simp only [aCells, List.cons.injEq, and_true, true_and] at hcs
  obtain ⟨rfl, rfl, rfl, rfl⟩ := hcs
  have HC := Lib.hid (fun W (hW : Below w.heap.size w W) => implRingAdd_any hi _ _ (aR a) now n W (hg.below hW (Nat.le_refl _)) (r2.below hW hh) (r3.below hW hh) (Nat.le_trans hh hW.size) hz.c hz.s)
  obtain ⟨AH, cH, rfl, -⟩ := Rep.slice_form r1
  obtain ⟨AC, cC, rfl, -⟩ := r2.form
  obtain ⟨AS, cS, rfl, -⟩ := r3.form
  obtain ⟨AL, cL, rfl, -⟩ := Rep.slice_form r4
  clear r1 r2 r3 r4 hrd
  clear hz hg
  have HI := Lib.hid hI
  clear hI
  obtain ⟨⟨rs2, rh2, cs2, ss2⟩, hls⟩ : ∃ q, q = ringAdd (aR a) now n := ⟨_, rfl⟩
  rw [← hls] at HC ⊢
  clear hls
  obtain ⟨id0, lim, pos, most, sum, hs, ⟨rs, rh, cs, ss⟩, sl⟩ := a
  simp only [aId, aLim, aPos, aMost, aSum, aH, aS, setR] at HI HC ⊢
  go_enter Tryz.func64, Tryz.ntmps64
  go_upto_region 1 with fail
  obtain ⟨W, hW⟩ : ∃ W, W = (w.alloc (.cells #[.string id0, .int .i64 lim, .int .i64 pos, .int .i64 most, .int .i64 sum, .slice AH hs.length cH, .int .i64 rs, .int .i64 rh, .slice AC cs.length cC, .slice AS ss.length cS, .slice AL sl.length cL] 29)).alloc (.cells #[.string ⟨#[]⟩, .int .i64 0, .int .i64 0, .int .i64 0, .int .i64 0, .slice none 0 0, .int .i64 0, .int .i64 0, .slice none 0 0, .slice none 0 0, .slice none 0 0] 29) := ⟨_, rfl⟩
  have b0 : bk W w.heap.size 29 [.string id0, .int .i64 lim, .int .i64 pos, .int .i64 most, .int .i64 sum, .slice AH hs.length cH, .int .i64 rs, .int .i64 rh, .slice AC cs.length cC, .slice AS ss.length cS, .slice AL sl.length cL] := by rw [hW]; exact ((bk.new w _ _).alloc _)
  have bR : bk W (w.heap.size + 1) 29 [.string ⟨#[]⟩, .int .i64 0, .int .i64 0, .int .i64 0, .int .i64 0, .slice none 0 0, .int .i64 0, .int .i64 0, .slice none 0 0, .slice none 0 0, .slice none 0 0] := by rw [hW]; simpa [Nat.add_assoc] using bk.new (w.alloc (.cells #[.string id0, .int .i64 lim, .int .i64 pos, .int .i64 most, .int .i64 sum, .slice AH hs.length cH, .int .i64 rs, .int .i64 rh, .slice AC cs.length cC, .slice AS ss.length cS, .slice AL sl.length cL] 29)) 29 [.string ⟨#[]⟩, .int .i64 0, .int .i64 0, .int .i64 0, .int .i64 0, .slice none 0 0, .int .i64 0, .int .i64 0, .slice none 0 0, .slice none 0 0, .slice none 0 0]
  have HB0 : Hid (Below w.heap.size w W) := Lib.hid (by rw [hW]; exact ((Below.refl _ _).alloc (Nat.le_refl _) _).alloc (by simp <;> omega) _)
  have y0 : w.heap.size + 2 ≤ W.heap.size := by rw [hW]; simp
  rw [← hW]
  clear hW
  obtain ⟨⟨p0, p1, p2, p3, p4, p5, p6, p7, p8, p9, p10⟩, -⟩ := b0.eleven
  have B0 := Lib.hid b0
  have BR := Lib.hid bR
  clear b0 bR
  go_wp2_with fail
  refine (HC.out W HB0.out).mono ?_
  rintro e w1 ⟨u, v, rfl, hu, hb1⟩
  obtain ⟨t1, t2⟩ := ring2 hu.rd
  obtain ⟨AM, cM, rfl, -⟩ := t1.form
  obtain ⟨AN, cN, rfl, -⟩ := t2.form
  clear t1 t2
  have z1 := hb1.size
  have HU := Lib.hid hu
  have HM1 := Lib.hid (HI.out.below (HB0.out.trans (hb1.mono HB0.out.size)) hh)
  have HB1 : Hid (Below w.heap.size w w1) := Lib.hid (HB0.out.trans (hb1.mono HB0.out.size))
  have C0 := Lib.hid (B0.out.below hb1 (by omega))
  have CR := Lib.hid (BR.out.below hb1 (by omega))
  clear hu hb1 HB0 HI HC B0 BR p0 p1 p2 p3 p4 p5 p6 p7 p8 p9 p10 
  obtain ⟨⟨p0, p1, p2, p3, p4, p5, p6, p7, p8, p9, p10⟩, f0, f1, f2, f3, f4, f5, f6, f7, f8, f9, f10⟩ := C0.out.eleven
  have hq := ((((C0.out.set 6 (.int .i64 rs2)).set 7 (.int .i64 rh2)).set 8 (.slice AM cs2.length cM)).set 9 (.slice AN ss2.length cN))
  have ht5 := (((((Turned.refl w.heap.size (w.heap.size + 1) w1).set (b := w.heap.size) 6 (.int .i64 rs2) (by omega) (by omega)).set (b := w.heap.size) 7 (.int .i64 rh2) (by omega) (by omega)).set (b := w.heap.size) 8 (.slice AM cs2.length cM) (by omega) (by omega)).set (b := w.heap.size) 9 (.slice AN ss2.length cN) (by omega) (by omega))
  go_upto_region 2 with fail
  obtain ⟨W6, hW6⟩ : ∃ W6, W6 = ((((w1.setCell ⟨w.heap.size, 6, none⟩ (.int .i64 rs2)).setCell ⟨w.heap.size, 7, none⟩ (.int .i64 rh2)).setCell ⟨w.heap.size, 8, none⟩ (.slice AM cs2.length cM)).setCell ⟨w.heap.size, 9, none⟩ (.slice AN ss2.length cN)) := ⟨_, rfl⟩
  rw [← hW6] at hq ht5 ⊢
  clear hW6
  have z6 := ht5.size
  have HM6 := Lib.hid (HM1.out.turned ht5 (.inl hh) (by omega))
  have HU6 := Lib.hid (HU.out.turned ht5 (.inr (by omega)) (Nat.le_refl _))
  have HB6 := Lib.hid (HB1.out.trans (ht5.below (B := w.heap.size) (by omega) (by omega)))
  have bR := CR.out.under ht5 (by omega)
  have b2 : bk W6 w.heap.size 29 [.string id0, .int .i64 lim, .int .i64 pos, .int .i64 most, .int .i64 sum, .slice AH hs.length cH, .int .i64 rs2, .int .i64 rh2, .slice AM cs2.length cM, .slice AN ss2.length cN, .slice AL sl.length cL] := hq
  clear hq ht5 HM1 HU HB1 C0 CR p0 p1 p2 p3 p4 p5 p6 p7 p8 p9 p10 f0 f1 f2 f3 f4 f5 f6 f7 f8 f9 f10
  obtain ⟨⟨p0, p1, p2, p3, p4, p5, p6, p7, p8, p9, p10⟩, -⟩ := b2.eleven
  obtain ⟨⟨r0, r1, r2, r3, r4, r5, r6, r7, r8, r9, r10⟩, g0, g1, g2, g3, g4, g5, g6, g7, g8, g9, g10⟩ := bR.eleven
  clear b2 bR
  go_wp2
  refine bodyPost_ret (v := .agg #[.string id0, .int .i64 lim, .int .i64 pos, .int .i64 most, .int .i64 sum, .slice AH hs.length cH, .int .i64 rs2, .int .i64 rh2, .slice AM cs2.length cM, .slice AN ss2.length cN, .slice AL sl.length cL]) (by simp [results, Tryz.results64, go_sem, r0, r1, r2, r3, r4, r5, r6, r7, r8, r9, r10]) rfl ?_
  have ht := ((((((((((((Turned.refl (w.heap.size + 1) (w.heap.size + 1 + 1) W6).set (b := w.heap.size + 1) 0 (.string id0) (by omega) (by omega)).set (b := w.heap.size + 1) 1 (.int .i64 lim) (by omega) (by omega)).set (b := w.heap.size + 1) 2 (.int .i64 pos) (by omega) (by omega)).set (b := w.heap.size + 1) 3 (.int .i64 most) (by omega) (by omega)).set (b := w.heap.size + 1) 4 (.int .i64 sum) (by omega) (by omega)).set (b := w.heap.size + 1) 5 (.slice AH hs.length cH) (by omega) (by omega)).set (b := w.heap.size + 1) 6 (.int .i64 rs2) (by omega) (by omega)).set (b := w.heap.size + 1) 7 (.int .i64 rh2) (by omega) (by omega)).set (b := w.heap.size + 1) 8 (.slice AM cs2.length cM) (by omega) (by omega)).set (b := w.heap.size + 1) 9 (.slice AN ss2.length cN) (by omega) (by omega)).set (b := w.heap.size + 1) 10 (.slice AL sl.length cL) (by omega) (by omega))
  have hsz := ht.size
  refine ⟨_, _, rfl, swapRI (p1 := hi) (HM6.out.turned ht (.inl (by omega)) (by omega)) ?_ hlo ?_, HB6.out.trans (ht.below (by omega) (by omega))⟩
  · exact (HU6.out.turned ht (.inr (by omega)) (by omega)).mono (by omega) (by omega)
  · omega
end Go.Proofs.YtnmijppppcgobaaGreatDoor
set_option linter.unusedVariables false
namespace Go.Proofs.YtnmijppppcgobaaGreatDoor
open Go.ChangeShapes Go.WideShapes Go.ChangeAt Go.RowKit

end Go.Proofs.YtnmijppppcgobaaGreatDoor
set_option linter.unusedVariables false
namespace Go.Proofs.YtnmijppppcgobaaGreatDoor
open Go.ChangeShapes Go.WideShapes Go.ChangeAt Go.RowKit

def kState (a : AcctD) (now : Int) : Int := codeIf (!(acctOk a && timeB now)) 1
def kId (id : ByteArray) : Int := codeIf (!idOk id) 1
def kAmt (n : Int) : Int := codeIf (decide (n < 1) || decide (9007199254740992 < n)) 4
def kTtl (ttl now : Int) : Int := codeIf ((decide (ttl < 1) || decide (9999 < ttl)) || decide (1000000000 < IntKind.i64.wrap (now + ttl))) 4
def kHeld (a : AcctD) (id : ByteArray) : Int := codeIf (!decide (0 ≤ findH (aH a) id)) 5
def kTwice (a : AcctD) (id : ByteArray) : Int := codeIf (decide (0 ≤ findH (aH a) id)) 6
def kFull (a : AcctD) : Int := codeIf (decide (4 ≤ (aH a).length)) 10
def kFunds (n r : Int) : Int := codeIf (decide (r < n)) 7
def kCount (a : AcctD) (now : Int) : Int := codeIf (decide (aMost a < IntKind.i64.wrap (ringTotal (aR a) now false + 1))) 8
def kSum (a : AcctD) (n now : Int) : Int := codeIf (decide (aSum a < satVal (ringTotal (aR a) now true) n)) 9
def kLimit (a : AcctD) (n now : Int) : Int := firstC [kFunds n (roomOf a now), kCount a now, kSum a n now]
set_option maxRecDepth 100000 in
theorem codeIf_yes {b : Bool} {k : Int} (h : b = true) : codeIf b k = k := by rw [h]; rfl
set_option maxRecDepth 100000 in
theorem codeIf_no {b : Bool} {k : Int} (h : b = false) : codeIf b k = 0 := by rw [h]; rfl
set_option maxRecDepth 100000 in
theorem firstC_zero {k : Int} {l : List Int} (h : k = 0) : firstC (k :: l) = firstC l := by rw [firstC, if_pos h]
set_option maxRecDepth 100000 in
theorem firstC_here {k : Int} {l : List Int} (h : k ≠ 0) : firstC (k :: l) = k := by rw [firstC, if_neg h]
set_option maxRecDepth 100000 in
theorem kLimit_fits {a : AcctD} (h : acctOk a = true) (n now : Int) : kLimit a n now = fitsV a n now := by
  obtain ⟨o1, o2, o3, o4, o5, o6, o7, o8, o9⟩ := acctOk_iff.1 h
  obtain ⟨c0, c1⟩ := ring_total_nn (r := aR a) (now := now) false
  have hw : IntKind.i64.wrap (ringTotal (aR a) now false + 1) = ringTotal (aR a) now false + 1 := IntWalk.i64_in _ (by omega)
  have hv := satVal_min (a := ringTotal (aR a) now false) (b := 1) c0 c1 (by decide) (by decide)
  unfold kLimit fitsV kFunds kCount kSum
  rw [hw, hv]
  by_cases h1 : roomOf a now < n
  · rw [codeIf_yes (decide_eq_true h1), if_pos h1, firstC_here (by decide)]
  rw [codeIf_no (decide_eq_false h1), if_neg h1, firstC_zero rfl]
  by_cases h2 : aMost a < ringTotal (aR a) now false + 1
  · rw [codeIf_yes (decide_eq_true h2), if_pos (by omega), firstC_here (by decide)]
  rw [codeIf_no (decide_eq_false h2), if_neg (by omega), firstC_zero rfl]
  by_cases h3 : aSum a < satVal (ringTotal (aR a) now true) n
  · rw [codeIf_yes (decide_eq_true h3), if_pos h3, firstC_here (by decide)]
  rw [codeIf_no (decide_eq_false h3), if_neg h3, firstC_zero rfl]
  rfl
set_option maxRecDepth 100000 in
/-- the checks that every operation begins with -/
theorem state_no {a : AcctD} {now : Int} {l : List Int} (h : (acctOk a && timeB now) = false) : firstC (kState a now :: l) = 1 := by
  unfold kState
  rw [codeIf_yes (by rw [h]; rfl), firstC_here (by decide)]
set_option maxRecDepth 100000 in
theorem state_yes {a : AcctD} {now : Int} {l : List Int} (h : (acctOk a && timeB now) = true) : firstC (kState a now :: l) = firstC l := by
  unfold kState
  rw [codeIf_no (by rw [h]; rfl), firstC_zero rfl]
set_option maxRecDepth 100000 in
theorem id_no {s : ByteArray} {l : List Int} (h : idOk s = false) : firstC (kId s :: l) = 1 := by
  unfold kId
  rw [codeIf_yes (by rw [h]; rfl), firstC_here (by decide)]
set_option maxRecDepth 100000 in
theorem id_yes {s : ByteArray} {l : List Int} (h : idOk s = true) : firstC (kId s :: l) = firstC l := by
  unfold kId
  rw [codeIf_no (by rw [h]; rfl), firstC_zero rfl]
set_option maxRecDepth 100000 in
theorem form_first (a : AcctD) (s : ByteArray) (now : Int) (l : List Int) : firstC (kState a now :: kId s :: l) = if formB a s now = false then 1 else firstC l := by
  unfold formB
  cases h1 : (acctOk a && timeB now) with
  | false => rw [state_no h1, if_pos (by rw [← Bool.and_assoc, h1]; rfl)]
  | true =>
    rw [state_yes h1]
    cases h2 : idOk s with
    | false => rw [id_no h2, if_pos (by simp)]
    | true => rw [id_yes h2, if_neg (by rw [← Bool.and_assoc, h1]; decide)]
set_option maxRecDepth 100000 in
theorem amt_first (n : Int) (l : List Int) : firstC (kAmt n :: l) = if inB n 1 9007199254740992 = false then 4 else firstC l := by
  unfold kAmt inB
  by_cases h : 1 ≤ n ∧ n ≤ 9007199254740992
  · rw [codeIf_no (by simp; omega), firstC_zero rfl, if_neg (by simp [h])]
  · rw [codeIf_yes (by simp; omega), firstC_here (by decide), if_pos (by simpa using h)]
set_option maxRecDepth 100000 in
theorem held_first (a : AcctD) (s : ByteArray) (l : List Int) : firstC (kHeld a s :: l) = if findH (aH a) s < 0 then 5 else firstC l := by
  unfold kHeld
  by_cases h : findH (aH a) s < 0
  · rw [codeIf_yes (by simp; omega), firstC_here (by decide), if_pos h]
  · rw [codeIf_no (by simp; omega), firstC_zero rfl, if_neg h]
set_option maxRecDepth 100000 in
theorem twice_first (a : AcctD) (s : ByteArray) (l : List Int) : firstC (kTwice a s :: l) = if 0 ≤ findH (aH a) s then 6 else firstC l := by
  unfold kTwice
  by_cases h : 0 ≤ findH (aH a) s
  · rw [codeIf_yes (by simp; omega), firstC_here (by decide), if_pos h]
  · rw [codeIf_no (by simp; omega), firstC_zero rfl, if_neg h]
set_option maxRecDepth 100000 in
theorem full_first {a : AcctD} (ha : (aH a).length ≤ 4) (l : List Int) : firstC (kFull a :: l) = if (aH a).length = 4 then 10 else firstC l := by
  unfold kFull
  by_cases h : (aH a).length = 4
  · rw [codeIf_yes (by simp; omega), firstC_here (by decide), if_pos h]
  · rw [codeIf_no (by simp; omega), firstC_zero rfl, if_neg h]
set_option maxRecDepth 100000 in
theorem funds_first (n r : Int) (l : List Int) : firstC (kFunds n r :: l) = if r < n then 7 else firstC l := by
  unfold kFunds
  by_cases h : r < n
  · rw [codeIf_yes (by simpa using h), firstC_here (by decide), if_pos h]
  · rw [codeIf_no (by simpa using h), firstC_zero rfl, if_neg h]
set_option maxRecDepth 100000 in
theorem ttl_first {now : Int} (ht : timeB now = true) (ttl : Int) (l : List Int) : firstC (kTtl ttl now :: l) = if (inB ttl 1 9999 && decide (now + ttl ≤ 1000000000)) = false then 4 else firstC l := by
  unfold timeB inB at ht
  simp only [decide_eq_true_eq] at ht
  unfold kTtl inB
  by_cases h : 1 ≤ ttl ∧ ttl ≤ 9999
  · have hw : IntKind.i64.wrap (now + ttl) = now + ttl := IntWalk.i64_in _ (by omega)
    rw [hw]
    by_cases h2 : now + ttl ≤ 1000000000
    · rw [codeIf_no (by simp; omega), firstC_zero rfl, if_neg (by simp [h, h2])]
    · rw [codeIf_yes (by simp; omega), firstC_here (by decide), if_pos (by simp [h2])]
  · rw [codeIf_yes (by simp; omega), firstC_here (by decide), if_pos (by simp [h])]
set_option maxRecDepth 100000 in
theorem limit_last {a : AcctD} (h : acctOk a = true) (n now : Int) : firstC [kLimit a n now] = fitsV a n now := by
  rw [kLimit_fits h]
  by_cases h0 : fitsV a n now = 0
  · rw [firstC_zero h0, h0]; rfl
  · rw [firstC_here h0]
set_option maxRecDepth 100000 in
theorem form_parts {a : AcctD} {s : ByteArray} {now : Int} (h : ¬ formB a s now = false) : acctOk a = true ∧ timeB now = true ∧ idOk s = true := by
  unfold formB at h
  simp only [Bool.not_eq_false, Bool.and_eq_true] at h
  exact ⟨h.1, h.2.1, h.2.2⟩
/-- what an operation says of its code: k ≠ 0 gives nothing, 0 gives the account -/
def says2 (k : Int) (r : AcctD × Int) (x : AcctD) : Prop := k = r.2 ∧ (k ≠ 0 → r.1 = acctNil) ∧ (k = 0 → r.1 = x)
set_option maxRecDepth 100000 in
theorem says2.no {k : Int} (h : k ≠ 0) (x : AcctD) : says2 k (acctNil, k) x := ⟨rfl, fun _ => rfl, fun e => absurd e h⟩
set_option maxRecDepth 100000 in
theorem says2.yes (x : AcctD) : says2 0 (x, 0) x := ⟨rfl, fun e => absurd rfl e, fun _ => rfl⟩
set_option maxRecDepth 100000 in
theorem free_codes (a : AcctD) (s : ByteArray) (now : Int) : says2 (firstC [kState a now, kId s, kHeld (acctSwept a now) s]) (frL a s now) (setH (acctSwept a now) (dropL (aH (acctSwept a now)) s)) := by
  rw [form_first]
  unfold frL frOn
  by_cases h : formB a s now = false
  · rw [if_pos h, if_pos h]; exact .no (by decide) _
  rw [if_neg h, if_neg h, held_first]
  by_cases h1 : findH (aH (acctSwept a now)) s < 0
  · rw [if_pos h1, if_pos h1]; exact .no (by decide) _
  rw [if_neg h1, if_neg h1]
  exact .yes _
set_option maxRecDepth 100000 in
theorem sweep_codes (a : AcctD) (now : Int) : says2 (firstC [kState a now]) (sweepL a now) (acctSwept a now) := by
  unfold sweepL
  cases h : (acctOk a && timeB now) with
  | false => rw [state_no h, if_pos rfl]; exact .no (by decide) _
  | true => rw [state_yes h, if_neg (by decide)]; exact .yes _
set_option maxRecDepth 100000 in
theorem auth_codes (a : AcctD) (s : ByteArray) (n ttl now : Int) : says2 (firstC [kState a now, kId s, kAmt n, kTtl ttl now, kTwice (acctSwept a now) s, kFull (acctSwept a now), kLimit (acctSwept a now) n now]) (authL a s n ttl now)
    (setR (setH (acctSwept a now) (putH (aH (acctSwept a now)) (s, n, IntKind.i64.wrap (now + ttl))).1) (ringAdd (aR (acctSwept a now)) now n)) := by
  rw [form_first]
  unfold authL authIn authOn
  by_cases h : formB a s now = false
  · rw [if_pos h, if_pos h]; exact .no (by decide) _
  obtain ⟨ha, ht, hi⟩ := form_parts h
  have hso := swept_ok ha ht
  obtain ⟨o1, o2, o3, o4, o5, o6, o7, o8, o9⟩ := acctOk_iff.1 hso
  have hl4 := (holdsOk_iff.1 o6).2.2
  rw [if_neg h, if_neg h, amt_first]
  by_cases h1 : inB n 1 9007199254740992 = false
  · rw [if_pos h1, if_pos (by rw [h1]; rfl)]; exact .no (by decide) _
  rw [if_neg h1, ttl_first ht]
  have h1' : inB n 1 9007199254740992 = true := by simpa using h1
  rw [h1', Bool.true_and]
  by_cases h2 : (inB ttl 1 9999 && decide (now + ttl ≤ 1000000000)) = false
  · rw [if_pos h2, if_pos h2]; exact .no (by decide) _
  rw [if_neg h2, if_neg h2, twice_first]
  by_cases h3 : 0 ≤ findH (aH (acctSwept a now)) s
  · rw [if_pos h3, if_pos h3]; exact .no (by decide) _
  rw [if_neg h3, if_neg h3, full_first hl4]
  by_cases h4 : (aH (acctSwept a now)).length = 4
  · rw [if_pos h4, if_pos h4]; exact .no (by decide) _
  rw [if_neg h4, if_neg h4, limit_last hso]
  by_cases h5 : fitsV (acctSwept a now) n now ≠ 0
  · rw [if_pos h5]; exact .no h5 _
  rw [if_neg h5, Classical.not_not.1 h5]
  have hw : IntKind.i64.wrap (now + ttl) = now + ttl := by
    unfold inB at h2
    unfold timeB inB at ht
    simp at h2 ht
    exact IntWalk.i64_in _ (by omega)
  rw [hw]
  exact .yes _
set_option maxRecDepth 100000 in
theorem more_codes (a : AcctD) (s : ByteArray) (n now : Int) : says2 (firstC [kState a now, kId s, kAmt n, kHeld (acctSwept a now) s, kLimit (acctSwept a now) n now]) (moreL a s n now)
    (setR (setH (acctSwept a now) (putH (aH (acctSwept a now)) ((holdFor (aH (acctSwept a now)) s).1, IntKind.i64.wrap ((holdFor (aH (acctSwept a now)) s).2.1 + n), (holdFor (aH (acctSwept a now)) s).2.2)).1) (ringAdd (aR (acctSwept a now)) now n)) := by
  rw [form_first]
  unfold moreL moreOn holdFor
  by_cases h : formB a s now = false
  · rw [if_pos h, if_pos h]; exact .no (by decide) _
  obtain ⟨ha, ht, hi⟩ := form_parts h
  have hso := swept_ok ha ht
  have hsl := swept_live ha ht
  obtain ⟨o1, o2, o3, o4, o5, o6, o7, o8, o9⟩ := acctOk_iff.1 hso
  rw [if_neg h, if_neg h, amt_first]
  by_cases h1 : inB n 1 9007199254740992 = false
  · rw [if_pos h1, if_pos h1]; exact .no (by decide) _
  rw [if_neg h1, if_neg h1, held_first]
  have h1' : 1 ≤ n ∧ n ≤ 9007199254740992 := by unfold inB at h1; simpa using h1
  have hra := room_all hso ht hsl
  generalize acctSwept a now = s0 at *
  by_cases h3 : findH (aH s0) s < 0
  · rw [if_pos h3, if_pos h3]; exact .no (by decide) _
  rw [if_neg h3, if_neg h3, if_neg h3, limit_last hso]
  by_cases h5 : fitsV s0 n now ≠ 0
  · rw [if_pos h5]; exact .no h5 _
  rw [if_neg h5, Classical.not_not.1 h5]
  rcases findH_cases (aH s0) s with h6 | ⟨k, h6, h7⟩
  · exact absurd h6 h3
  obtain ⟨x, hx⟩ : ∃ x, (aH s0)[k]? = some x := ⟨_, List.getElem?_eq_getElem h7⟩
  rw [h6, Int.toNat_natCast, getD_some hx]
  have hf := (fits_iff (now := now) hso (show 0 ≤ n by omega) h1'.2).1 (Classical.not_not.1 h5)
  obtain ⟨q1, q2, q3, q4⟩ := hold_in hso (List.mem_of_getElem? hx)
  have hle : x.2.1 ≤ sumH (aH s0) := by
    have := sumH_drop (holdsOk_iff.1 o6).1 hx
    have h2 := (sumH_range (holdsOk_sub o6 (drop_sub (aH s0) x.1))).1
    omega
  have hw : IntKind.i64.wrap (x.2.1 + n) = x.2.1 + n := IntWalk.i64_in _ (by omega)
  rw [hw, putH_old o6 hx (by omega) (by omega)]
  exact .yes _
set_option maxRecDepth 100000 in
theorem cap_codes (a : AcctD) (s : ByteArray) (n : Int) (last : Bool) (now : Int) : says2 (firstC [kState a now, kId s, kAmt n, kHeld (acctSwept a now) s, kFunds n (holdFor (aH (acctSwept a now)) s).2.1]) (capL a s n last now)
    (if (last || decide (IntKind.i64.wrap ((holdFor (aH (acctSwept a now)) s).2.1 - n) = 0)) = true then setH (setP (acctSwept a now) (IntKind.i64.wrap (aPos (acctSwept a now) + n))) (dropL (aH (acctSwept a now)) s)
      else setH (setP (acctSwept a now) (IntKind.i64.wrap (aPos (acctSwept a now) + n))) (putH (aH (acctSwept a now)) ((holdFor (aH (acctSwept a now)) s).1, IntKind.i64.wrap ((holdFor (aH (acctSwept a now)) s).2.1 - n), (holdFor (aH (acctSwept a now)) s).2.2)).1) := by
  rw [form_first]
  unfold capL capOn holdFor
  by_cases h : formB a s now = false
  · rw [if_pos h, if_pos h]; exact .no (by decide) _
  obtain ⟨ha, ht, hi⟩ := form_parts h
  have hso := swept_ok ha ht
  obtain ⟨o1, o2, o3, o4, o5, o6, o7, o8, o9⟩ := acctOk_iff.1 hso
  rw [if_neg h, if_neg h, amt_first]
  by_cases h1 : inB n 1 9007199254740992 = false
  · rw [if_pos h1, if_pos h1]; exact .no (by decide) _
  rw [if_neg h1, if_neg h1, held_first]
  have h1' : 1 ≤ n ∧ n ≤ 9007199254740992 := by unfold inB at h1; simpa using h1
  generalize acctSwept a now = s0 at *
  by_cases h3 : findH (aH s0) s < 0
  · rw [if_pos h3, if_pos h3]; exact .no (by decide) _
  rw [if_neg h3, if_neg h3, if_neg h3, funds_first]
  rcases findH_cases (aH s0) s with h6 | ⟨k, h6, h7⟩
  · exact absurd h6 h3
  obtain ⟨x, hx⟩ : ∃ x, (aH s0)[k]? = some x := ⟨_, List.getElem?_eq_getElem h7⟩
  rw [h6, Int.toNat_natCast, getD_some hx]
  by_cases h4 : x.2.1 < n
  · rw [if_pos h4, if_pos h4]; exact .no (by decide) _
  rw [if_neg h4, if_neg h4]
  obtain ⟨q1, q2, q3, q4⟩ := hold_in hso (List.mem_of_getElem? hx)
  have hsum := (sumH_range o6)
  have hw1 : IntKind.i64.wrap (x.2.1 - n) = x.2.1 - n := IntWalk.i64_in _ (by omega)
  have hw2 : IntKind.i64.wrap (aPos s0 + n) = aPos s0 + n := IntWalk.i64_in _ (by omega)
  rw [hw1, hw2]
  have hd : decide (x.2.1 - n = 0) = decide (n = x.2.1) := by by_cases q : n = x.2.1 <;> simp [q] <;> omega
  rw [hd]
  by_cases h5 : (last || decide (n = x.2.1)) = true
  · rw [if_pos h5, if_pos h5]; exact .yes _
  rw [if_neg h5, if_neg h5]
  have hne : n ≠ x.2.1 := by simp at h5; exact h5.2
  rw [putH_old o6 hx (by omega) (by omega)]
  exact .yes _
set_option maxRecDepth 100000 in
theorem holdFor_size {l : List HoldD} {N : Nat} {id : ByteArray} (h : ∀ y ∈ l, y.1.size ≤ N) : (holdFor l id).1.size ≤ N := by
  unfold holdFor
  rcases findH_cases l id with h1 | ⟨k, h1, h2⟩
  · rw [if_pos h1]; exact Nat.zero_le _
  · rw [if_neg (by omega), h1, Int.toNat_natCast, getD_some (List.getElem?_eq_getElem h2)]
    exact h _ (List.getElem_mem h2)
end Go.Proofs.YtnmijppppcgobaaGreatDoor
set_option linter.unusedVariables false
namespace Go.Proofs.YtnmijppppcgobaaGreatDoor
open Go.ChangeShapes Go.WideShapes Go.ChangeAt Go.RowKit

set_option maxRecDepth 100000 in
set_option maxHeartbeats 4000000 in
theorem implHasHold_any (hi : Nat) (vh vc vs vl : Value) (a : AcctD) (id : ByteArray) (w : World) (hz : acctSmall 1048576 a) (hbig : acctBig a) (h : AcctR.rd hi w (aCells a vh vc vs vl) a) (hh : hi ≤ w.heap.size) :
    Calls Tryz.prog 125 #[.agg #[.string (aId a), .int .i64 (aLim a), .int .i64 (aPos a), .int .i64 (aMost a), .int .i64 (aSum a), vh, .int .i64 (aR a).1, .int .i64 (aR a).2.1, vc, vs, vl], .string id] w fun e w' => e = .returned (.bool (decide (0 ≤ findH (aH a) id))) ∧ Below w.heap.size w w' := by
  obtain ⟨vh0, vc0, vs0, vl0, hcs, r1, r2, r3, r4⟩ := acct_rd h
  simp only [aCells, List.cons.injEq, and_true, true_and] at hcs
  obtain ⟨rfl, rfl, rfl, rfl⟩ := hcs
  have HHA := Lib.hid (fun W (hW : Below w.heap.size w W) => implHoldAt_any hi _ (aH a) id W hz.h (Rep.below (R := HoldsR) r1 hW hh) (Nat.le_trans hh hW.size))
  obtain ⟨AH, cH, rfl, -⟩ := Rep.slice_form r1
  obtain ⟨AC, cC, rfl, -⟩ := r2.form
  obtain ⟨AS, cS, rfl, -⟩ := r3.form
  obtain ⟨AL, cL, rfl, -⟩ := Rep.slice_form r4
  clear r1 r2 r3 r4 h hz hbig
  generalize findH (aH a) id = fv at HHA ⊢
  obtain ⟨id0, lim, pos, most, sum, hs, ⟨rs, rh, cs, ss⟩, sl⟩ := a
  simp only [aId, aLim, aPos, aMost, aSum, aH, aS] at HHA ⊢
  have HB0 : Hid (Below w.heap.size w (w.alloc (.cells #[.string id0, .int .i64 lim, .int .i64 pos, .int .i64 most, .int .i64 sum, .slice AH hs.length cH, .int .i64 rs, .int .i64 rh, .slice AC cs.length cC, .slice AS ss.length cS, .slice AL sl.length cL] 29))) := Lib.hid ((Below.refl _ _).alloc (Nat.le_refl _) _)
  go_enter Tryz.func125, Tryz.ntmps125
  go_upto_region 1 with fail
  obtain ⟨W, hW⟩ : ∃ W, W = w.alloc (.cells #[.string id0, .int .i64 lim, .int .i64 pos, .int .i64 most, .int .i64 sum, .slice AH hs.length cH, .int .i64 rs, .int .i64 rh, .slice AC cs.length cC, .slice AS ss.length cS, .slice AL sl.length cL] 29) := ⟨_, rfl⟩
  have bb : bk W w.heap.size 29 [.string id0, .int .i64 lim, .int .i64 pos, .int .i64 most, .int .i64 sum, .slice AH hs.length cH, .int .i64 rs, .int .i64 rh, .slice AC cs.length cC, .slice AS ss.length cS, .slice AL sl.length cL] := by rw [hW]; exact bk.new w _ _
  rw [← hW] at HB0 ⊢
  clear hW
  obtain ⟨⟨p0, p1, p2, p3, p4, p5, p6, p7, p8, p9, p10⟩, -⟩ := bb.eleven
  clear bb
  go_wp2_with fail
  refine (HHA.out W HB0.out).mono ?_
  rintro e w1 ⟨rfl, hb1⟩
  have HB1 : Hid (Below w.heap.size w w1) := Lib.hid (HB0.out.trans (hb1.mono HB0.out.size))
  clear hb1 HB0 HHA p0 p1 p2 p3 p4 p5 p6 p7 p8 p9 p10
  by_cases g : 0 ≤ fv
  all_goals
    go_wp2
    go_ret
    exact ⟨by simp [g], HB1.out⟩
set_option maxRecDepth 100000 in
set_option maxHeartbeats 4000000 in
theorem state_says (hi : Nat) (vh vc vs vl : Value) (a : AcctD) (now : Int) (w : World) (B1 B2 : Nat) (hg : Handle w) (hz : acctSmall 1048576 a) (hbig : acctBig a) (h : AcctR.rd hi w (aCells a vh vc vs vl) a) (hh : hi ≤ w.heap.size) (b1 : bk w B1 29 [.string (aId a), .int .i64 (aLim a), .int .i64 (aPos a), .int .i64 (aMost a), .int .i64 (aSum a), vh, .int .i64 (aR a).1, .int .i64 (aR a).2.1, vc, vs, vl]) (b2 : bk w B2 3 [.int .i64 now]) : chkB w 120 #[.pointer (some ⟨B1, 0, none⟩), .pointer (some ⟨B2, 0, none⟩)] (!(acctOk a && timeB now)) := by
  refine ⟨Go.Proofs.enters_of Tryz.func120 (by kernel_rfl) rfl, fun W hW => ?_⟩
  have HC := Lib.hid (implHasState_any hi vh vc vs vl a now W (hg.below hW (Nat.le_refl _)) hz hbig (Rep.below (R := AcctR) h hW hh) (Nat.le_trans hh hW.size))
  obtain ⟨vh0, vc0, vs0, vl0, hcs, r1, r2, r3, r4⟩ := acct_rd h
  simp only [aCells, List.cons.injEq, and_true, true_and] at hcs
  obtain ⟨rfl, rfl, rfl, rfl⟩ := hcs
  obtain ⟨AH, cH, rfl, -⟩ := Rep.slice_form r1
  obtain ⟨AC, cC, rfl, -⟩ := r2.form
  obtain ⟨AS, cS, rfl, -⟩ := r3.form
  obtain ⟨AL, cL, rfl, -⟩ := Rep.slice_form r4
  have z1 := b1.lt
  have c2 : W.cell? ⟨B2, 0, none⟩ = some (.int .i64 now) := (b2.below hW b2.lt).cell 0
  have b1 := b1.below hW z1
  clear r1 r2 r3 r4 h hz hbig hW hg
  clear b2
  generalize (acctOk a && timeB now) = res at HC ⊢
  obtain ⟨id0, lim, pos, most, sum, hs, ⟨rs, rh, cs, ss⟩, sl⟩ := a
  simp only [aId, aLim, aPos, aMost, aSum, aH, aS] at HC b1 ⊢
  obtain ⟨⟨p0, p1, p2, p3, p4, p5, p6, p7, p8, p9, p10⟩, -⟩ := b1.eleven
  clear b1
  go_enter Tryz.func120, Tryz.ntmps120
  go_wp2_with fail
  refine HC.out.mono ?_
  rintro e w1 ⟨rfl, hb1⟩
  have HB1 := Lib.hid hb1
  clear hb1
  go_wp2
  go_ret
  exact ⟨rfl, HB1.out⟩
set_option maxRecDepth 100000 in
set_option maxHeartbeats 4000000 in
theorem held_says (hi : Nat) (vh vc vs vl : Value) (a : AcctD) (id : ByteArray) (w : World) (B1 B2 : Nat) (hz : acctSmall 1048576 a) (hbig : acctBig a) (h : AcctR.rd hi w (aCells a vh vc vs vl) a) (hh : hi ≤ w.heap.size) (b1 : bk w B1 29 [.string (aId a), .int .i64 (aLim a), .int .i64 (aPos a), .int .i64 (aMost a), .int .i64 (aSum a), vh, .int .i64 (aR a).1, .int .i64 (aR a).2.1, vc, vs, vl]) (b2 : bk w B2 9 [.string id]) : chkB w 124 #[.pointer (some ⟨B1, 0, none⟩), .pointer (some ⟨B2, 0, none⟩)] (!decide (0 ≤ findH (aH a) id)) := by
  refine ⟨Go.Proofs.enters_of Tryz.func124 (by kernel_rfl) rfl, fun W hW => ?_⟩
  have HC := Lib.hid (implHasHold_any hi vh vc vs vl a id W hz hbig (Rep.below (R := AcctR) h hW hh) (Nat.le_trans hh hW.size))
  obtain ⟨vh0, vc0, vs0, vl0, hcs, r1, r2, r3, r4⟩ := acct_rd h
  simp only [aCells, List.cons.injEq, and_true, true_and] at hcs
  obtain ⟨rfl, rfl, rfl, rfl⟩ := hcs
  obtain ⟨AH, cH, rfl, -⟩ := Rep.slice_form r1
  obtain ⟨AC, cC, rfl, -⟩ := r2.form
  obtain ⟨AS, cS, rfl, -⟩ := r3.form
  obtain ⟨AL, cL, rfl, -⟩ := Rep.slice_form r4
  have z1 := b1.lt
  have c2 : W.cell? ⟨B2, 0, none⟩ = some (.string id) := (b2.below hW b2.lt).cell 0
  have b1 := b1.below hW z1
  clear r1 r2 r3 r4 h hz hbig hW
  clear b2
  generalize decide (0 ≤ findH (aH a) id) = res at HC ⊢
  obtain ⟨id0, lim, pos, most, sum, hs, ⟨rs, rh, cs, ss⟩, sl⟩ := a
  simp only [aId, aLim, aPos, aMost, aSum, aH, aS] at HC b1 ⊢
  obtain ⟨⟨p0, p1, p2, p3, p4, p5, p6, p7, p8, p9, p10⟩, -⟩ := b1.eleven
  clear b1
  go_enter Tryz.func124, Tryz.ntmps124
  go_wp2_with fail
  refine HC.out.mono ?_
  rintro e w1 ⟨rfl, hb1⟩
  have HB1 := Lib.hid hb1
  clear hb1
  go_wp2
  go_ret
  exact ⟨rfl, HB1.out⟩
set_option maxRecDepth 100000 in
set_option maxHeartbeats 4000000 in
theorem twice_says (hi : Nat) (vh vc vs vl : Value) (a : AcctD) (id : ByteArray) (w : World) (B1 B2 : Nat) (hz : acctSmall 1048576 a) (hbig : acctBig a) (h : AcctR.rd hi w (aCells a vh vc vs vl) a) (hh : hi ≤ w.heap.size) (b1 : bk w B1 29 [.string (aId a), .int .i64 (aLim a), .int .i64 (aPos a), .int .i64 (aMost a), .int .i64 (aSum a), vh, .int .i64 (aR a).1, .int .i64 (aR a).2.1, vc, vs, vl]) (b2 : bk w B2 9 [.string id]) : chkB w 147 #[.pointer (some ⟨B1, 0, none⟩), .pointer (some ⟨B2, 0, none⟩)] (decide (0 ≤ findH (aH a) id)) := by
  refine ⟨Go.Proofs.enters_of Tryz.func147 (by kernel_rfl) rfl, fun W hW => ?_⟩
  have HC := Lib.hid (implHasHold_any hi vh vc vs vl a id W hz hbig (Rep.below (R := AcctR) h hW hh) (Nat.le_trans hh hW.size))
  obtain ⟨vh0, vc0, vs0, vl0, hcs, r1, r2, r3, r4⟩ := acct_rd h
  simp only [aCells, List.cons.injEq, and_true, true_and] at hcs
  obtain ⟨rfl, rfl, rfl, rfl⟩ := hcs
  obtain ⟨AH, cH, rfl, -⟩ := Rep.slice_form r1
  obtain ⟨AC, cC, rfl, -⟩ := r2.form
  obtain ⟨AS, cS, rfl, -⟩ := r3.form
  obtain ⟨AL, cL, rfl, -⟩ := Rep.slice_form r4
  have z1 := b1.lt
  have c2 : W.cell? ⟨B2, 0, none⟩ = some (.string id) := (b2.below hW b2.lt).cell 0
  have b1 := b1.below hW z1
  clear r1 r2 r3 r4 h hz hbig hW
  clear b2
  generalize decide (0 ≤ findH (aH a) id) = res at HC ⊢
  obtain ⟨id0, lim, pos, most, sum, hs, ⟨rs, rh, cs, ss⟩, sl⟩ := a
  simp only [aId, aLim, aPos, aMost, aSum, aH, aS] at HC b1 ⊢
  obtain ⟨⟨p0, p1, p2, p3, p4, p5, p6, p7, p8, p9, p10⟩, -⟩ := b1.eleven
  clear b1
  go_enter Tryz.func147, Tryz.ntmps147
  go_wp2_with fail
  refine HC.out.mono ?_
  rintro e w1 ⟨rfl, hb1⟩
  have HB1 := Lib.hid hb1
  clear hb1
  go_wp2
  go_ret
  exact ⟨rfl, HB1.out⟩
set_option maxRecDepth 100000 in
set_option maxHeartbeats 4000000 in
theorem full_says (hi : Nat) (vh vc vs vl : Value) (a : AcctD) (w : World) (B1 : Nat) (hz : acctSmall 1048576 a) (hbig : acctBig a) (h : AcctR.rd hi w (aCells a vh vc vs vl) a) (hh : hi ≤ w.heap.size) (b1 : bk w B1 29 [.string (aId a), .int .i64 (aLim a), .int .i64 (aPos a), .int .i64 (aMost a), .int .i64 (aSum a), vh, .int .i64 (aR a).1, .int .i64 (aR a).2.1, vc, vs, vl]) : chkB w 148 #[.pointer (some ⟨B1, 0, none⟩)] (decide (4 ≤ (aH a).length)) := by
  refine ⟨Go.Proofs.enters_of Tryz.func148 (by kernel_rfl) rfl, fun W hW => ?_⟩
  obtain ⟨vh0, vc0, vs0, vl0, hcs, r1, r2, r3, r4⟩ := acct_rd h
  simp only [aCells, List.cons.injEq, and_true, true_and] at hcs
  obtain ⟨rfl, rfl, rfl, rfl⟩ := hcs
  obtain ⟨AH, cH, rfl, -⟩ := Rep.slice_form r1
  obtain ⟨AC, cC, rfl, -⟩ := r2.form
  obtain ⟨AS, cS, rfl, -⟩ := r3.form
  obtain ⟨AL, cL, rfl, -⟩ := Rep.slice_form r4
  have b1 := b1.below hW b1.lt
  clear r1 r2 r3 r4 h hz hbig hW
  obtain ⟨id0, lim, pos, most, sum, hs, ⟨rs, rh, cs, ss⟩, sl⟩ := a
  simp only [aId, aLim, aPos, aMost, aSum, aH, aS] at b1 ⊢
  obtain ⟨⟨p0, p1, p2, p3, p4, p5, p6, p7, p8, p9, p10⟩, -⟩ := b1.eleven
  clear b1
  have HN : Hid (decide ((4 : Int) ≤ (hs.length : Int)) = decide (4 ≤ hs.length)) := Lib.hid (by by_cases q : 4 ≤ hs.length <;> simp [q] <;> omega)
  generalize decide (4 ≤ hs.length) = res at HN ⊢
  go_enter Tryz.func148, Tryz.ntmps148
  go_wp2
  go_ret
  exact ⟨ret_bool HN.out, Below.refl _ _⟩
set_option maxRecDepth 100000 in
set_option maxHeartbeats 4000000 in
theorem id_says (id : ByteArray) (hs : id.size ≤ maxLen) (w : World) (B1 : Nat) (b1 : bk w B1 9 [.string id]) : chkB w 121 #[.pointer (some ⟨B1, 0, none⟩)] (!idOk id) := by
  refine ⟨Go.Proofs.enters_of Tryz.func121 (by kernel_rfl) rfl, fun W hW => ?_⟩
  have c1 : W.cell? ⟨B1, 0, none⟩ = some (.string id) := (b1.below hW b1.lt).cell 0
  clear hW b1
  have HC := Lib.hid (implHoldIdOk_any id W hs)
  clear hs
  generalize idOk id = res at HC ⊢
  go_enter Tryz.func121, Tryz.ntmps121
  go_wp2_with fail
  refine HC.out.mono ?_
  rintro e w1 ⟨rfl, hb1⟩
  have HB1 := Lib.hid hb1
  clear hb1
  go_wp2
  go_ret
  exact ⟨rfl, HB1.out⟩
set_option maxRecDepth 100000 in
set_option maxHeartbeats 4000000 in
theorem amount_says (n : Int) (w : World) (B1 : Nat) (b1 : bk w B1 3 [.int .i64 n]) : chkB w 123 #[.pointer (some ⟨B1, 0, none⟩)] (decide (n < 1) || decide (9007199254740992 < n)) := by
  refine ⟨Go.Proofs.enters_of Tryz.func123 (by kernel_rfl) rfl, fun W hW => ?_⟩
  have c1 : W.cell? ⟨B1, 0, none⟩ = some (.int .i64 n) := (b1.below hW b1.lt).cell 0
  clear hW b1
  by_cases m0 : n < 1
  all_goals by_cases m1 : 9007199254740992 < n
  all_goals
    go_enter Tryz.func123, Tryz.ntmps123
    go_wp2
    go_ret
    exact ⟨by simp [m0, m1], Below.refl _ _⟩
set_option maxRecDepth 100000 in
set_option maxHeartbeats 4000000 in
theorem ttl_says (ttl now : Int) (w : World) (B1 B2 : Nat) (b1 : bk w B1 3 [.int .i64 ttl]) (b2 : bk w B2 3 [.int .i64 now]) : chkB w 146 #[.pointer (some ⟨B1, 0, none⟩), .pointer (some ⟨B2, 0, none⟩)] ((decide (ttl < 1) || decide (9999 < ttl)) || decide (1000000000 < IntKind.i64.wrap (now + ttl))) := by
  refine ⟨Go.Proofs.enters_of Tryz.func146 (by kernel_rfl) rfl, fun W hW => ?_⟩
  have c1 : W.cell? ⟨B1, 0, none⟩ = some (.int .i64 ttl) := (b1.below hW b1.lt).cell 0
  have c2 : W.cell? ⟨B2, 0, none⟩ = some (.int .i64 now) := (b2.below hW b2.lt).cell 0
  clear hW b1 b2
  generalize hq : IntKind.i64.wrap (now + ttl) = s
  have HQ := hq
  clear hq
  by_cases m0 : ttl < 1
  all_goals by_cases m1 : 9999 < ttl
  all_goals by_cases m2 : 1000000000 < s
  all_goals
    go_enter Tryz.func146, Tryz.ntmps146
    go_wp2
    go_ret
    exact ⟨by simp [m0, m1, m2], Below.refl _ _⟩
set_option maxRecDepth 100000 in
set_option maxHeartbeats 4000000 in
theorem funds_says (n r : Int) (w : World) (B1 B2 : Nat) (b1 : bk w B1 3 [.int .i64 n]) (b2 : bk w B2 3 [.int .i64 r]) : chkB w 126 #[.pointer (some ⟨B1, 0, none⟩), .pointer (some ⟨B2, 0, none⟩)] (decide (r < n)) := by
  refine ⟨Go.Proofs.enters_of Tryz.func126 (by kernel_rfl) rfl, fun W hW => ?_⟩
  have c1 : W.cell? ⟨B1, 0, none⟩ = some (.int .i64 n) := (b1.below hW b1.lt).cell 0
  have c2 : W.cell? ⟨B2, 0, none⟩ = some (.int .i64 r) := (b2.below hW b2.lt).cell 0
  clear hW b1 b2
  by_cases m0 : r < n
  all_goals
    go_enter Tryz.func126, Tryz.ntmps126
    go_wp2
    go_ret
    exact ⟨by simp [m0], Below.refl _ _⟩
set_option maxRecDepth 100000 in
set_option maxHeartbeats 4000000 in
theorem implStateCheck_any (hi : Nat) (vh vc vs vl : Value) (a : AcctD) (now : Int) (w : World) (hg : Handle w) (hz : acctSmall 1048576 a) (hbig : acctBig a) (h : AcctR.rd hi w (aCells a vh vc vs vl) a) (hh : hi ≤ w.heap.size) :
    Calls Tryz.prog 56 #[.agg #[.string (aId a), .int .i64 (aLim a), .int .i64 (aPos a), .int .i64 (aMost a), .int .i64 (aSum a), vh, .int .i64 (aR a).1, .int .i64 (aR a).2.1, vc, vs, vl], .int .i64 now] w (chkRes (codeIf (!(acctOk a && timeB now)) 1) w) := by
  obtain ⟨vh0, vc0, vs0, vl0, hcs, r1, r2, r3, r4⟩ := acct_rd h
  simp only [aCells, List.cons.injEq, and_true, true_and] at hcs
  obtain ⟨rfl, rfl, rfl, rfl⟩ := hcs
  obtain ⟨AH, cH, rfl, -⟩ := Rep.slice_form r1
  obtain ⟨AC, cC, rfl, -⟩ := r2.form
  obtain ⟨AS, cS, rfl, -⟩ := r3.form
  obtain ⟨AL, cL, rfl, -⟩ := Rep.slice_form r4
  have HA := Lib.hid h
  clear r1 r2 r3 r4 h
  obtain ⟨W, hW⟩ : ∃ W, W = ((w.alloc (.cells #[.string (aId a), .int .i64 (aLim a), .int .i64 (aPos a), .int .i64 (aMost a), .int .i64 (aSum a), .slice AH (aH a).length cH, .int .i64 (aR a).1, .int .i64 (aR a).2.1, .slice AC (aR a).2.2.1.length cC, .slice AS (aR a).2.2.2.length cS, .slice AL (aS a).length cL] 29)).alloc (.cells #[.int .i64 now] 3)) := ⟨_, rfl⟩
  have HB0 : Hid (Below w.heap.size w W) := Lib.hid (by rw [hW]; exact ((Below.refl _ _).alloc (Nat.le_refl _) _).alloc (by simp <;> omega) _)
  have b1 : bk W w.heap.size 29 [.string (aId a), .int .i64 (aLim a), .int .i64 (aPos a), .int .i64 (aMost a), .int .i64 (aSum a), .slice AH (aH a).length cH, .int .i64 (aR a).1, .int .i64 (aR a).2.1, .slice AC (aR a).2.2.1.length cC, .slice AS (aR a).2.2.2.length cS, .slice AL (aS a).length cL] := by rw [hW]; exact (bk.new w _ _).alloc _
  have b2 : bk W (w.heap.size + 1) 3 [.int .i64 now] := by rw [hW]; simpa [Nat.add_assoc] using ((bk.new (w.alloc _) 3 [.int .i64 now]))
  have HRF := Lib.hid (implRefuseIf_any 1 _ _ _ W (state_says hi _ _ _ _ a now W w.heap.size (w.heap.size + 1) (hg.below HB0.out (Nat.le_refl _)) hz hbig (Rep.below (R := AcctR) HA.out HB0.out hh) (Nat.le_trans hh HB0.out.size) b1 b2))
  clear b1 b2
  clear HA hz hbig hg
  generalize codeIf (!(acctOk a && timeB now)) 1 = kk at HRF ⊢
  obtain ⟨id0, lim, pos, most, sum, hs, ⟨rs, rh, cs, ss⟩, sl⟩ := a
  simp only [aId, aLim, aPos, aMost, aSum, aH, aS] at hW HRF ⊢
  go_enter Tryz.func56, Tryz.ntmps56
  go_upto_region 1 with fail
  rw [← hW]
  clear hW
  go_wp2_with fail
  refine HRF.out.mono ?_
  rintro e w1 ⟨g, lb, rfl, hk, hb1⟩
  have HK := Lib.hid hk
  have HB1 : Hid (Below w.heap.size w w1) := Lib.hid (HB0.out.trans (hb1.mono HB0.out.size))
  clear hk hb1
  go_wp2
  go_ret
  exact ⟨_, _, rfl, HK.out, HB1.out⟩
set_option maxRecDepth 100000 in
set_option maxHeartbeats 4000000 in
theorem implHeldCheck_any (hi : Nat) (vh vc vs vl : Value) (a : AcctD) (id : ByteArray) (w : World) (hz : acctSmall 1048576 a) (hbig : acctBig a) (h : AcctR.rd hi w (aCells a vh vc vs vl) a) (hh : hi ≤ w.heap.size) :
    Calls Tryz.prog 59 #[.agg #[.string (aId a), .int .i64 (aLim a), .int .i64 (aPos a), .int .i64 (aMost a), .int .i64 (aSum a), vh, .int .i64 (aR a).1, .int .i64 (aR a).2.1, vc, vs, vl], .string id] w (chkRes (codeIf (!decide (0 ≤ findH (aH a) id)) 5) w) := by
  obtain ⟨vh0, vc0, vs0, vl0, hcs, r1, r2, r3, r4⟩ := acct_rd h
  simp only [aCells, List.cons.injEq, and_true, true_and] at hcs
  obtain ⟨rfl, rfl, rfl, rfl⟩ := hcs
  obtain ⟨AH, cH, rfl, -⟩ := Rep.slice_form r1
  obtain ⟨AC, cC, rfl, -⟩ := r2.form
  obtain ⟨AS, cS, rfl, -⟩ := r3.form
  obtain ⟨AL, cL, rfl, -⟩ := Rep.slice_form r4
  have HA := Lib.hid h
  clear r1 r2 r3 r4 h
  obtain ⟨W, hW⟩ : ∃ W, W = ((w.alloc (.cells #[.string (aId a), .int .i64 (aLim a), .int .i64 (aPos a), .int .i64 (aMost a), .int .i64 (aSum a), .slice AH (aH a).length cH, .int .i64 (aR a).1, .int .i64 (aR a).2.1, .slice AC (aR a).2.2.1.length cC, .slice AS (aR a).2.2.2.length cS, .slice AL (aS a).length cL] 29)).alloc (.cells #[.string id] 9)) := ⟨_, rfl⟩
  have HB0 : Hid (Below w.heap.size w W) := Lib.hid (by rw [hW]; exact ((Below.refl _ _).alloc (Nat.le_refl _) _).alloc (by simp <;> omega) _)
  have b1 : bk W w.heap.size 29 [.string (aId a), .int .i64 (aLim a), .int .i64 (aPos a), .int .i64 (aMost a), .int .i64 (aSum a), .slice AH (aH a).length cH, .int .i64 (aR a).1, .int .i64 (aR a).2.1, .slice AC (aR a).2.2.1.length cC, .slice AS (aR a).2.2.2.length cS, .slice AL (aS a).length cL] := by rw [hW]; exact (bk.new w _ _).alloc _
  have b2 : bk W (w.heap.size + 1) 9 [.string id] := by rw [hW]; simpa [Nat.add_assoc] using ((bk.new (w.alloc _) 9 [.string id]))
  have HRF := Lib.hid (implRefuseIf_any 5 _ _ _ W (held_says hi _ _ _ _ a id W w.heap.size (w.heap.size + 1) hz hbig (Rep.below (R := AcctR) HA.out HB0.out hh) (Nat.le_trans hh HB0.out.size) b1 b2))
  clear b1 b2
  clear HA hz hbig
  generalize codeIf (!decide (0 ≤ findH (aH a) id)) 5 = kk at HRF ⊢
  obtain ⟨id0, lim, pos, most, sum, hs, ⟨rs, rh, cs, ss⟩, sl⟩ := a
  simp only [aId, aLim, aPos, aMost, aSum, aH, aS] at hW HRF ⊢
  go_enter Tryz.func59, Tryz.ntmps59
  go_upto_region 1 with fail
  rw [← hW]
  clear hW
  go_wp2_with fail
  refine HRF.out.mono ?_
  rintro e w1 ⟨g, lb, rfl, hk, hb1⟩
  have HK := Lib.hid hk
  have HB1 : Hid (Below w.heap.size w w1) := Lib.hid (HB0.out.trans (hb1.mono HB0.out.size))
  clear hk hb1
  go_wp2
  go_ret
  exact ⟨_, _, rfl, HK.out, HB1.out⟩
set_option maxRecDepth 100000 in
set_option maxHeartbeats 4000000 in
theorem implTwiceCheck_any (hi : Nat) (vh vc vs vl : Value) (a : AcctD) (id : ByteArray) (w : World) (hz : acctSmall 1048576 a) (hbig : acctBig a) (h : AcctR.rd hi w (aCells a vh vc vs vl) a) (hh : hi ≤ w.heap.size) :
    Calls Tryz.prog 74 #[.agg #[.string (aId a), .int .i64 (aLim a), .int .i64 (aPos a), .int .i64 (aMost a), .int .i64 (aSum a), vh, .int .i64 (aR a).1, .int .i64 (aR a).2.1, vc, vs, vl], .string id] w (chkRes (codeIf (decide (0 ≤ findH (aH a) id)) 6) w) := by
  obtain ⟨vh0, vc0, vs0, vl0, hcs, r1, r2, r3, r4⟩ := acct_rd h
  simp only [aCells, List.cons.injEq, and_true, true_and] at hcs
  obtain ⟨rfl, rfl, rfl, rfl⟩ := hcs
  obtain ⟨AH, cH, rfl, -⟩ := Rep.slice_form r1
  obtain ⟨AC, cC, rfl, -⟩ := r2.form
  obtain ⟨AS, cS, rfl, -⟩ := r3.form
  obtain ⟨AL, cL, rfl, -⟩ := Rep.slice_form r4
  have HA := Lib.hid h
  clear r1 r2 r3 r4 h
  obtain ⟨W, hW⟩ : ∃ W, W = ((w.alloc (.cells #[.string (aId a), .int .i64 (aLim a), .int .i64 (aPos a), .int .i64 (aMost a), .int .i64 (aSum a), .slice AH (aH a).length cH, .int .i64 (aR a).1, .int .i64 (aR a).2.1, .slice AC (aR a).2.2.1.length cC, .slice AS (aR a).2.2.2.length cS, .slice AL (aS a).length cL] 29)).alloc (.cells #[.string id] 9)) := ⟨_, rfl⟩
  have HB0 : Hid (Below w.heap.size w W) := Lib.hid (by rw [hW]; exact ((Below.refl _ _).alloc (Nat.le_refl _) _).alloc (by simp <;> omega) _)
  have b1 : bk W w.heap.size 29 [.string (aId a), .int .i64 (aLim a), .int .i64 (aPos a), .int .i64 (aMost a), .int .i64 (aSum a), .slice AH (aH a).length cH, .int .i64 (aR a).1, .int .i64 (aR a).2.1, .slice AC (aR a).2.2.1.length cC, .slice AS (aR a).2.2.2.length cS, .slice AL (aS a).length cL] := by rw [hW]; exact (bk.new w _ _).alloc _
  have b2 : bk W (w.heap.size + 1) 9 [.string id] := by rw [hW]; simpa [Nat.add_assoc] using ((bk.new (w.alloc _) 9 [.string id]))
  have HRF := Lib.hid (implRefuseIf_any 6 _ _ _ W (twice_says hi _ _ _ _ a id W w.heap.size (w.heap.size + 1) hz hbig (Rep.below (R := AcctR) HA.out HB0.out hh) (Nat.le_trans hh HB0.out.size) b1 b2))
  clear b1 b2
  clear HA hz hbig
  generalize codeIf (decide (0 ≤ findH (aH a) id)) 6 = kk at HRF ⊢
  obtain ⟨id0, lim, pos, most, sum, hs, ⟨rs, rh, cs, ss⟩, sl⟩ := a
  simp only [aId, aLim, aPos, aMost, aSum, aH, aS] at hW HRF ⊢
  go_enter Tryz.func74, Tryz.ntmps74
  go_upto_region 1 with fail
  rw [← hW]
  clear hW
  go_wp2_with fail
  refine HRF.out.mono ?_
  rintro e w1 ⟨g, lb, rfl, hk, hb1⟩
  have HK := Lib.hid hk
  have HB1 : Hid (Below w.heap.size w w1) := Lib.hid (HB0.out.trans (hb1.mono HB0.out.size))
  clear hk hb1
  go_wp2
  go_ret
  exact ⟨_, _, rfl, HK.out, HB1.out⟩
set_option maxRecDepth 100000 in
set_option maxHeartbeats 4000000 in
theorem implFullCheck_any (hi : Nat) (vh vc vs vl : Value) (a : AcctD)  (w : World) (hz : acctSmall 1048576 a) (hbig : acctBig a) (h : AcctR.rd hi w (aCells a vh vc vs vl) a) (hh : hi ≤ w.heap.size) :
    Calls Tryz.prog 75 #[.agg #[.string (aId a), .int .i64 (aLim a), .int .i64 (aPos a), .int .i64 (aMost a), .int .i64 (aSum a), vh, .int .i64 (aR a).1, .int .i64 (aR a).2.1, vc, vs, vl]] w (chkRes (codeIf (decide (4 ≤ (aH a).length)) 10) w) := by
  obtain ⟨vh0, vc0, vs0, vl0, hcs, r1, r2, r3, r4⟩ := acct_rd h
  simp only [aCells, List.cons.injEq, and_true, true_and] at hcs
  obtain ⟨rfl, rfl, rfl, rfl⟩ := hcs
  obtain ⟨AH, cH, rfl, -⟩ := Rep.slice_form r1
  obtain ⟨AC, cC, rfl, -⟩ := r2.form
  obtain ⟨AS, cS, rfl, -⟩ := r3.form
  obtain ⟨AL, cL, rfl, -⟩ := Rep.slice_form r4
  have HA := Lib.hid h
  clear r1 r2 r3 r4 h
  obtain ⟨W, hW⟩ : ∃ W, W = (w.alloc (.cells #[.string (aId a), .int .i64 (aLim a), .int .i64 (aPos a), .int .i64 (aMost a), .int .i64 (aSum a), .slice AH (aH a).length cH, .int .i64 (aR a).1, .int .i64 (aR a).2.1, .slice AC (aR a).2.2.1.length cC, .slice AS (aR a).2.2.2.length cS, .slice AL (aS a).length cL] 29)) := ⟨_, rfl⟩
  have HB0 : Hid (Below w.heap.size w W) := Lib.hid (by rw [hW]; exact (Below.refl _ _).alloc (Nat.le_refl _) _)
  have b1 : bk W w.heap.size 29 [.string (aId a), .int .i64 (aLim a), .int .i64 (aPos a), .int .i64 (aMost a), .int .i64 (aSum a), .slice AH (aH a).length cH, .int .i64 (aR a).1, .int .i64 (aR a).2.1, .slice AC (aR a).2.2.1.length cC, .slice AS (aR a).2.2.2.length cS, .slice AL (aS a).length cL] := by rw [hW]; exact (bk.new w _ _)
  have HRF := Lib.hid (implRefuseIf_any 10 _ _ _ W (full_says hi _ _ _ _ a  W w.heap.size  hz hbig (Rep.below (R := AcctR) HA.out HB0.out hh) (Nat.le_trans hh HB0.out.size) b1))
  clear b1
  clear HA hz hbig
  generalize codeIf (decide (4 ≤ (aH a).length)) 10 = kk at HRF ⊢
  obtain ⟨id0, lim, pos, most, sum, hs, ⟨rs, rh, cs, ss⟩, sl⟩ := a
  simp only [aId, aLim, aPos, aMost, aSum, aH, aS] at hW HRF ⊢
  go_enter Tryz.func75, Tryz.ntmps75
  go_upto_region 1 with fail
  rw [← hW]
  clear hW
  go_wp2_with fail
  refine HRF.out.mono ?_
  rintro e w1 ⟨g, lb, rfl, hk, hb1⟩
  have HK := Lib.hid hk
  have HB1 : Hid (Below w.heap.size w w1) := Lib.hid (HB0.out.trans (hb1.mono HB0.out.size))
  clear hk hb1
  go_wp2
  go_ret
  exact ⟨_, _, rfl, HK.out, HB1.out⟩
set_option maxRecDepth 100000 in
set_option maxHeartbeats 4000000 in
theorem implIdCheck_any (id : ByteArray) (w : World) (hs : id.size ≤ maxLen) :
    Calls Tryz.prog 57 #[.string id] w (chkRes (codeIf (!idOk id) 1) w) := by
  obtain ⟨W, hW⟩ : ∃ W, W = (w.alloc (.cells #[.string id] 9)) := ⟨_, rfl⟩
  have HB0 : Hid (Below w.heap.size w W) := Lib.hid (by rw [hW]; exact (Below.refl _ _).alloc (Nat.le_refl _) _)
  have b1 : bk W w.heap.size 9 [.string id] := by rw [hW]; exact (bk.new w _ _)
  have HRF := Lib.hid (implRefuseIf_any 1 _ _ _ W (id_says id hs W w.heap.size b1))
  clear b1
  generalize codeIf (!idOk id) 1 = kk at HRF ⊢
  go_enter Tryz.func57, Tryz.ntmps57
  go_upto_region 1 with fail
  rw [← hW]
  clear hW
  go_wp2_with fail
  refine HRF.out.mono ?_
  rintro e w1 ⟨g, lb, rfl, hk, hb1⟩
  have HK := Lib.hid hk
  have HB1 : Hid (Below w.heap.size w w1) := Lib.hid (HB0.out.trans (hb1.mono HB0.out.size))
  clear hk hb1
  go_wp2
  go_ret
  exact ⟨_, _, rfl, HK.out, HB1.out⟩
set_option maxRecDepth 100000 in
set_option maxHeartbeats 4000000 in
theorem implAmountCheck_any (n : Int) (w : World)  :
    Calls Tryz.prog 58 #[.int .i64 n] w (chkRes (codeIf (decide (n < 1) || decide (9007199254740992 < n)) 4) w) := by
  obtain ⟨W, hW⟩ : ∃ W, W = (w.alloc (.cells #[.int .i64 n] 3)) := ⟨_, rfl⟩
  have HB0 : Hid (Below w.heap.size w W) := Lib.hid (by rw [hW]; exact (Below.refl _ _).alloc (Nat.le_refl _) _)
  have b1 : bk W w.heap.size 3 [.int .i64 n] := by rw [hW]; exact (bk.new w _ _)
  have HRF := Lib.hid (implRefuseIf_any 4 _ _ _ W (amount_says n W w.heap.size b1))
  clear b1
  generalize codeIf (decide (n < 1) || decide (9007199254740992 < n)) 4 = kk at HRF ⊢
  go_enter Tryz.func58, Tryz.ntmps58
  go_upto_region 1 with fail
  rw [← hW]
  clear hW
  go_wp2_with fail
  refine HRF.out.mono ?_
  rintro e w1 ⟨g, lb, rfl, hk, hb1⟩
  have HK := Lib.hid hk
  have HB1 : Hid (Below w.heap.size w w1) := Lib.hid (HB0.out.trans (hb1.mono HB0.out.size))
  clear hk hb1
  go_wp2
  go_ret
  exact ⟨_, _, rfl, HK.out, HB1.out⟩
set_option maxRecDepth 100000 in
set_option maxHeartbeats 4000000 in
theorem implTtlCheck_any (ttl now : Int) (w : World)  :
    Calls Tryz.prog 73 #[.int .i64 ttl, .int .i64 now] w (chkRes (codeIf ((decide (ttl < 1) || decide (9999 < ttl)) || decide (1000000000 < IntKind.i64.wrap (now + ttl))) 4) w) := by
  obtain ⟨W, hW⟩ : ∃ W, W = ((w.alloc (.cells #[.int .i64 ttl] 3)).alloc (.cells #[.int .i64 now] 3)) := ⟨_, rfl⟩
  have HB0 : Hid (Below w.heap.size w W) := Lib.hid (by rw [hW]; exact ((Below.refl _ _).alloc (Nat.le_refl _) _).alloc (by simp <;> omega) _)
  have b1 : bk W w.heap.size 3 [.int .i64 ttl] := by rw [hW]; exact (bk.new w _ _).alloc _
  have b2 : bk W (w.heap.size + 1) 3 [.int .i64 now] := by rw [hW]; simpa [Nat.add_assoc] using ((bk.new (w.alloc _) 3 [.int .i64 now]))
  have HRF := Lib.hid (implRefuseIf_any 4 _ _ _ W (ttl_says ttl now W w.heap.size (w.heap.size + 1) b1 b2))
  clear b1 b2
  generalize codeIf ((decide (ttl < 1) || decide (9999 < ttl)) || decide (1000000000 < IntKind.i64.wrap (now + ttl))) 4 = kk at HRF ⊢
  go_enter Tryz.func73, Tryz.ntmps73
  go_upto_region 1 with fail
  rw [← hW]
  clear hW
  go_wp2_with fail
  refine HRF.out.mono ?_
  rintro e w1 ⟨g, lb, rfl, hk, hb1⟩
  have HK := Lib.hid hk
  have HB1 : Hid (Below w.heap.size w w1) := Lib.hid (HB0.out.trans (hb1.mono HB0.out.size))
  clear hk hb1
  go_wp2
  go_ret
  exact ⟨_, _, rfl, HK.out, HB1.out⟩
set_option maxRecDepth 100000 in
set_option maxHeartbeats 4000000 in
theorem implFundsCheck_any (n r : Int) (w : World)  :
    Calls Tryz.prog 60 #[.int .i64 n, .int .i64 r] w (chkRes (codeIf (decide (r < n)) 7) w) := by
  obtain ⟨W, hW⟩ : ∃ W, W = ((w.alloc (.cells #[.int .i64 n] 3)).alloc (.cells #[.int .i64 r] 3)) := ⟨_, rfl⟩
  have HB0 : Hid (Below w.heap.size w W) := Lib.hid (by rw [hW]; exact ((Below.refl _ _).alloc (Nat.le_refl _) _).alloc (by simp <;> omega) _)
  have b1 : bk W w.heap.size 3 [.int .i64 n] := by rw [hW]; exact (bk.new w _ _).alloc _
  have b2 : bk W (w.heap.size + 1) 3 [.int .i64 r] := by rw [hW]; simpa [Nat.add_assoc] using ((bk.new (w.alloc _) 3 [.int .i64 r]))
  have HRF := Lib.hid (implRefuseIf_any 7 _ _ _ W (funds_says n r W w.heap.size (w.heap.size + 1) b1 b2))
  clear b1 b2
  generalize codeIf (decide (r < n)) 7 = kk at HRF ⊢
  go_enter Tryz.func60, Tryz.ntmps60
  go_upto_region 1 with fail
  rw [← hW]
  clear hW
  go_wp2_with fail
  refine HRF.out.mono ?_
  rintro e w1 ⟨g, lb, rfl, hk, hb1⟩
  have HK := Lib.hid hk
  have HB1 : Hid (Below w.heap.size w w1) := Lib.hid (HB0.out.trans (hb1.mono HB0.out.size))
  clear hk hb1
  go_wp2
  go_ret
  exact ⟨_, _, rfl, HK.out, HB1.out⟩
end Go.Proofs.YtnmijppppcgobaaGreatDoor
set_option linter.unusedVariables false
namespace Go.Proofs.YtnmijppppcgobaaGreatDoor
open Go.ChangeShapes Go.WideShapes Go.ChangeAt Go.RowKit

set_option maxRecDepth 100000 in
set_option maxHeartbeats 8000000 in
theorem implRoom_any (hi : Nat) (vh vc vs vl : Value) (a : AcctD) (now : Int) (w : World) (hg : Handle w) (hz : acctSmall 1048576 a) (hbig : acctBig a) (h : AcctR.rd hi w (aCells a vh vc vs vl) a) (hh : hi ≤ w.heap.size) :
    Calls Tryz.prog 22 #[.agg #[.string (aId a), .int .i64 (aLim a), .int .i64 (aPos a), .int .i64 (aMost a), .int .i64 (aSum a), vh, .int .i64 (aR a).1, .int .i64 (aR a).2.1, vc, vs, vl], .int .i64 now] w fun e w' => e = .returned (.int .i64 (roomOf a now)) ∧ Below w.heap.size w w' := by
  have HHS := Lib.hid (fun W (hW : Below w.heap.size w W) => implHasState_any hi vh vc vs vl a now W (hg.below hW (Nat.le_refl _)) hz hbig (Rep.below (R := AcctR) h hW hh) (Nat.le_trans hh hW.size))
  obtain ⟨vh0, vc0, vs0, vl0, hcs, r1, r2, r3, r4⟩ := acct_rd h
  simp only [aCells, List.cons.injEq, and_true, true_and] at hcs
  obtain ⟨rfl, rfl, rfl, rfl⟩ := hcs
  clear h
  have HLV := Lib.hid (fun W (hW : Below w.heap.size w W) => implLiveSum_any hi _ (aH a) now W (hg.below hW (Nat.le_refl _)) hz.h (Rep.below (R := HoldsR) r1 hW hh) (Nat.le_trans hh hW.size))
  have HRO : Hid (roomOf a now = if (acctOk a && timeB now) = true then aLim a - aPos a - storedL (liveL (aH a) now) else 0) := Lib.hid rfl
  have HNU : Hid ((acctOk a && timeB now) = true → 0 ≤ aLim a ∧ aLim a ≤ 9007199254740992 ∧ 0 ≤ aPos a ∧ aPos a ≤ 4611686018427387904) := Lib.hid fun hk => acctOk_nums (by simp only [Bool.and_eq_true] at hk; exact hk.1)
  obtain ⟨sr0, sr1⟩ := storedL_range (liveL (aH a) now)
  obtain ⟨AH, cH, rfl, -⟩ := Rep.slice_form r1
  obtain ⟨AC, cC, rfl, -⟩ := r2.form
  obtain ⟨AS, cS, rfl, -⟩ := r3.form
  obtain ⟨AL, cL, rfl, -⟩ := Rep.slice_form r4
  clear r1 r2 r3 r4 hz hbig hg
  generalize (acctOk a && timeB now) = ok at HHS HRO HNU
  generalize storedL (liveL (aH a) now) = st at HLV HRO sr0 sr1
  generalize roomOf a now = rm at HRO ⊢
  obtain ⟨id, lim, pos, most, sum, hs, ⟨rs, rh, cs, ss⟩, sl⟩ := a
  simp only [aId, aLim, aPos, aMost, aSum, aH, aS] at HHS HLV HRO HNU ⊢
  have HAO := Lib.hid (fun V => implAccountOf_any id lim pos most sum AH hs.length cH rs rh AC cs.length cC AS ss.length cS AL sl.length cL V)
  go_enter Tryz.func22, Tryz.ntmps22
  go_upto_region 1 with fail
  obtain ⟨W, hW⟩ : ∃ W, W = w.alloc (.cells #[.string id, .int .i64 lim, .int .i64 pos, .int .i64 most, .int .i64 sum, .slice AH hs.length cH, .int .i64 rs, .int .i64 rh, .slice AC cs.length cC, .slice AS ss.length cS, .slice AL sl.length cL] 29) := ⟨_, rfl⟩
  have bb : bk W w.heap.size 29 [.string id, .int .i64 lim, .int .i64 pos, .int .i64 most, .int .i64 sum, .slice AH hs.length cH, .int .i64 rs, .int .i64 rh, .slice AC cs.length cC, .slice AS ss.length cS, .slice AL sl.length cL] := by rw [hW]; exact bk.new w _ _
  have HBW : Hid (Below w.heap.size w W) := Lib.hid (by rw [hW]; exact (Below.refl _ _).alloc (Nat.le_refl _) _)
  rw [← hW]
  clear hW
  have x0 := bb.lt
  obtain ⟨⟨p0, p1, p2, p3, p4, p5, p6, p7, p8, p9, p10⟩, -⟩ := bb.eleven
  have B0 := Lib.hid bb
  clear bb
  go_wp2_with fail
  refine (HHS.out W HBW.out).mono ?_
  rintro e W3 ⟨rfl, hb3⟩
  have x3 := hb3.size
  have HB3 : Hid (Below w.heap.size w W3) := Lib.hid (HBW.out.trans (hb3.mono (by omega)))
  have B3 := Lib.hid (B0.out.below hb3 (by omega))
  clear hb3 HBW p0 p1 p2 p3 p4 p5 p6 p7 p8 p9 p10 B0
  cases ok
  · have HN := Lib.hid (HRO.out.trans (show _ = (0 : Int) by simp))
    go_wp2
    go_ret
    exact ⟨by rw [HN.out]; rfl, HB3.out⟩
  obtain ⟨k1, k2, k3, k4⟩ := HNU.out (by trivial)
  have HN : Hid (rm = lim - pos - st) := Lib.hid (HRO.out.trans (by simp))
  have HRE := Lib.hid (fun V => implRest_any lim pos most sum st V (by omega) (by omega) (by omega) (by omega))
  clear HRO HHS HNU k1 k2 k3 k4 sr0 sr1
  obtain ⟨⟨p0, p1, p2, p3, p4, p5, p6, p7, p8, p9, p10⟩, -⟩ := B3.out.eleven
  go_wp2_with fail
  refine (HAO.out W3).mono ?_
  rintro e W4 ⟨rfl, hb4⟩
  have x4 := hb4.size
  have HB4 : Hid (Below w.heap.size w W4) := Lib.hid (HB3.out.trans (hb4.mono (by omega)))
  clear hb4 B3 HB3 p0 p1 p2 p3 p4 p5 p6 p7 p8 p9 p10
  go_upto_region 4 with fail
  obtain ⟨V, hV⟩ : ∃ V, V = W4.alloc (.cells #[.int .i64 lim, .int .i64 pos, .int .i64 most, .int .i64 sum, .string id, .slice AH hs.length cH, .int .i64 rs, .int .i64 rh, .slice AC cs.length cC, .slice AS ss.length cS, .slice AL sl.length cL] 97) := ⟨_, rfl⟩
  have b5 : bk V W4.heap.size 97 [.int .i64 lim, .int .i64 pos, .int .i64 most, .int .i64 sum, .string id, .slice AH hs.length cH, .int .i64 rs, .int .i64 rh, .slice AC cs.length cC, .slice AS ss.length cS, .slice AL sl.length cL] := by rw [hV]; exact bk.new W4 _ _
  have HB5 : Hid (Below w.heap.size w V) := Lib.hid (by rw [hV]; exact HB4.out.alloc (by omega) _)
  rw [← hV]
  clear hV HB4
  have x5 := b5.lt
  obtain ⟨⟨p0, p1, p2, p3, p4, p5, p6, p7, p8, p9, p10⟩, -⟩ := b5.eleven
  have P0 := Lib.hid p0
  have P1 := Lib.hid p1
  have P2 := Lib.hid p2
  have P3 := Lib.hid p3
  have P5 := Lib.hid p5
  clear b5 p0 p1 p2 p3 p4 p5 p6 p7 p8 p9 p10
  have HX : Hid (Ext V V.drew) := Lib.hid (Ext.refl V).drew
  have HBX : Hid (∀ U, Ext V U → Below w.heap.size w U) := Lib.hid fun U hU => HB5.out.trans (hU.below.mono (by omega))
  refine quiet_region (C := Ext V) (by kernel_rfl) (by kernel_rfl) HX.out ?_
  repeat (first
    | go_big_quiet_skip
    | (go_big_quiet_want; go_big_quiet_op; go_big_quiet_on)
    | (go_big_quiet_want; go_big_quiet_op; apply Exists.intro; refine ⟨fun _ _ => rfl, ?_⟩; go_big_quiet_on)
    | (go_big_quiet_want
       apply Exists.intro
       refine ⟨fun U hU => ?_, ?_⟩
       (have q0 := hU.cell P0.out (by omega)
        have q1 := hU.cell P1.out (by omega)
        have q2 := hU.cell P2.out (by omega)
        have q3 := hU.cell P3.out (by omega)
        have q5 := hU.cell P5.out (by omega)
        unfold Oper.quietAt
        go_simp
        rfl)
       simp only [Act.put, List.setIfInBounds_toArray, List.set_cons_zero, List.set_cons_succ]
       go_big_quiet_on)
    | (go_big_quiet_want
       apply Exists.intro
       refine ⟨fun U hU => ?_, ?_⟩
       (unfold Oper.quietAt
        go_simp
        go_at_call 23
        (with_reducible refine (HLV.out U (HBX.out U hU)).mono ?_)
        rintro e w4 ⟨rfl, hb4⟩
        exact ⟨rfl, hU.step hb4⟩)
       simp only [Act.put, List.setIfInBounds_toArray, List.set_cons_zero, List.set_cons_succ]
       go_big_quiet_on)
    | (go_big_quiet_want
       apply Exists.intro
       refine ⟨fun U hU => ?_, ?_⟩
       (unfold Oper.quietAt
        go_simp
        go_at_call 69
        (with_reducible refine (HRE.out U).mono ?_)
        rintro e w4 ⟨rfl, hb4⟩
        exact ⟨rfl, hU.step hb4⟩)
       simp only [Act.put, List.setIfInBounds_toArray, List.set_cons_zero, List.set_cons_succ]
       go_big_quiet_on)
    | fail)
  refine wpQuiet_nil ?_
  intro W5 hW5
  go_wp2
  go_ret
  exact ⟨by rw [HN.out]; rfl, HBX.out W5 hW5⟩
end Go.Proofs.YtnmijppppcgobaaGreatDoor
set_option linter.unusedVariables false
namespace Go.Proofs.YtnmijppppcgobaaGreatDoor
open Go.ChangeShapes Go.WideShapes Go.ChangeAt Go.RowKit

set_option maxRecDepth 100000 in
theorem total_not {r : RingD} {now : Int} (h : (ringOk r && timeB now) = false) (b : Bool) : ringTotal r now b = 0 := by
  unfold ringTotal
  rw [h]
  rfl
set_option maxRecDepth 100000 in
theorem total_win {r : RingD} {now : Int} (hok : ringOk r = true) (ht : timeB now = true) : ringTotal r now false = totalL ((winRoll r.1 r.2.1 now (r.2.2.1.zip r.2.2.2)).map Prod.fst) ∧ ringTotal r now true = totalL ((winRoll r.1 r.2.1 now (r.2.2.1.zip r.2.2.2)).map Prod.snd) := by
  unfold ringTotal
  rw [hok, ht, roll_win hok ht]
  exact ⟨rfl, rfl⟩
set_option maxRecDepth 100000 in
theorem bk.two {w : World} {g : Nat} {t : TypeId} {a b : Value} (h : bk w g t [a, b]) : (w.cell? ⟨g, 0, none⟩ = some a ∧ w.cell? ⟨g, 1, none⟩ = some b) ∧ (w.frozen? ⟨g, 0, none⟩ = false ∧ w.frozen? ⟨g, 1, none⟩ = false) :=
  ⟨⟨h.cell 0, h.cell 1⟩, h.frozen 0, h.frozen 1⟩
set_option maxRecDepth 100000 in
set_option maxHeartbeats 4000000 in
theorem implTotal_any (hi : Nat) (vc vs : Value) (r : RingD) (now : Int) (w : World) (hg : Handle w) (h1 : rd .i64 hi w vc r.2.2.1) (h2 : rd .i64 hi w vs r.2.2.2) (hh : hi ≤ w.heap.size) (hc : r.2.2.1.length ≤ 1048576) (hs : r.2.2.2.length ≤ 1048576) :
    Calls Tryz.prog 76 #[.agg #[.int .i64 r.1, .int .i64 r.2.1, vc, vs], .int .i64 now] w fun e w' => e = .returned (.agg #[.int .i64 (ringTotal r now false), .int .i64 (ringTotal r now true)]) ∧ Below w.heap.size w w' := by
  have HG := Lib.hid hg
  obtain ⟨A1, c1, rfl, -⟩ := h1.form
  obtain ⟨A2, c2, rfl, -⟩ := h2.form
  have HCR := Lib.hid (fun W (hW : Below w.heap.size w W) => implCanRoll_any hi _ _ r now W (h1.below hW hh) (h2.below hW hh) (Nat.le_trans hh hW.size) hc hs)
  have HWA := Lib.hid (fun hk ht W (hW : Below w.heap.size w W) => implWindow_any hi _ _ r now W (h1.below hW hh) (h2.below hW hh) (Nat.le_trans hh hW.size) hk ht)
  have HRW := Lib.hid (fun hk ht => total_win (r := r) (now := now) hk ht)
  have HRN := Lib.hid (fun h => And.intro (total_not (r := r) (now := now) h false) (total_not (r := r) (now := now) h true))
  have HLN := Lib.hid (fun hk => win_len (r := r) (now := now) hk)
  clear h1 h2 hg
  generalize ringOk r = ok at HCR HWA HRW HRN HLN
  generalize timeB now = tm at HCR HWA HRW HRN
  generalize ringTotal r now false = Tc at HRW HRN ⊢
  generalize ringTotal r now true = Ts at HRW HRN ⊢
  obtain ⟨sp, hd, uc, us⟩ := r
  simp only at hc hs HCR HWA HRW HLN ⊢
  go_enter Tryz.func76, Tryz.ntmps76
  go_upto_region 2 with fail
  obtain ⟨W, hW⟩ : ∃ W, W = ((w.alloc (.cells #[.int .i64 sp, .int .i64 hd, .slice A1 uc.length c1, .slice A2 us.length c2] 26)).alloc (.cells #[.int .i64 0, .int .i64 0] 104)).alloc (.cells #[.int .i64 0, .int .i64 0] 104) := ⟨_, rfl⟩
  have b0 : bk W w.heap.size 26 [.int .i64 sp, .int .i64 hd, .slice A1 uc.length c1, .slice A2 us.length c2] := by rw [hW]; exact ((bk.new w _ _).alloc _).alloc _
  have b1 : bk W (w.heap.size + 1) 104 [.int .i64 0, .int .i64 0] := by rw [hW]; simpa using (bk.new (w.alloc _) 104 [.int .i64 0, .int .i64 0]).alloc _
  have b2 : bk W (w.heap.size + 2) 104 [.int .i64 0, .int .i64 0] := by rw [hW]; simpa using bk.new ((w.alloc _).alloc _) 104 [.int .i64 0, .int .i64 0]
  have HB0 : Hid (Below w.heap.size w W) := Lib.hid (by rw [hW]; exact (((Below.refl _ _).alloc (Nat.le_refl _) _).alloc (by simp) _).alloc (by simp <;> omega) _)
  have z0 : w.heap.size + 3 ≤ W.heap.size := by rw [hW]; simp
  rw [← hW]
  clear hW
  obtain ⟨⟨p0, p1, p2, p3⟩, -⟩ := b0.cells
  go_wp2_with fail
  refine (HCR.out W HB0.out).mono ?_
  rintro e w0 ⟨rfl, hb0⟩
  have y0 := hb0.size
  have HBX : Hid (Below w.heap.size w w0) := Lib.hid (HB0.out.trans (hb0.mono (by omega)))
  replace b0 := b0.below hb0 (by omega)
  replace b1 := b1.below hb0 (by omega)
  replace b2 := b2.below hb0 (by omega)
  clear hb0 HB0 p0 p1 p2 p3 HCR
  cases hg : (ok && tm)
  · have HTC := Lib.hid (HRN.out hg)
    clear HRN HRW HWA HLN hg b0
    obtain ⟨⟨p0, p1⟩, -⟩ := b2.two
    obtain ⟨⟨r0, r1⟩, f0, f1⟩ := b1.two
    clear b1 b2
    go_wp2
    refine bodyPost_ret (v := .agg #[.int .i64 0, .int .i64 0]) (by simp [results, Tryz.results76, go_sem, r0, r1]) rfl ?_
    rw [HTC.out.1, HTC.out.2]
    have ht := ((Turned.refl (w.heap.size + 1) (w.heap.size + 2) w0).set (b := w.heap.size + 1) 0 (.int .i64 0) (by omega) (by omega)).set (b := w.heap.size + 1) 1 (.int .i64 0) (by omega) (by omega)
    exact ⟨rfl, HBX.out.trans (ht.below (by omega) (by omega))⟩
  · simp only [Bool.and_eq_true] at hg
    obtain ⟨rfl, rfl⟩ := hg
    have HRF := Lib.hid (HRW.out (by trivial) (by trivial))
    obtain ⟨l1, l2, l3⟩ := HLN.out (by trivial)
    obtain ⟨⟨p0, p1, p2, p3⟩, -⟩ := b0.cells
    clear HRN HRW HLN b0
    go_wp2_with fail
    refine (HWA.out (by trivial) (by trivial) w0 HBX.out).mono ?_
    rintro e w5 ⟨p, v, rfl, hwin, hb5⟩
    have z5 := hb5.size
    have HB5 : Hid (Below w.heap.size w w5) := Lib.hid (HBX.out.trans (hb5.mono (by omega)))
    replace b1 := b1.below hb5 (by omega)
    replace b2 := b2.below hb5 (by omega)
    clear hb5 HBX p0 p1 p2 p3 HWA
    generalize winHead sp hd now = hd2 at hwin
    generalize winRoll sp hd now (uc.zip us) = wl at hwin HRF l1
    have HL1 : Hid (wl.length ≤ 8) := Lib.hid (by omega)
    have HL2 : Hid (1 ≤ wl.length) := Lib.hid (by omega)
    clear l1
    obtain ⟨A, c, rfl, -⟩ := hwin.row.form
    obtain ⟨g, rfl, hBg, hgl⟩ : ∃ g, A = some ⟨g, 0, none⟩ ∧ w0.heap.size ≤ g ∧ g < w5.heap.size := by
      rcases hwin.row.2 with ⟨h', h0⟩ | ⟨g, cap, cur, h', hB, hg, -⟩
      · have := HL2.out; omega
      · simp only [Value.slice.injEq] at h'
        exact ⟨g, h'.1, hB, (Array.getElem?_eq_some_iff.1 hg).1⟩
    have HO := Lib.hid hwin.row
    obtain ⟨⟨q0, q1, q2⟩, -⟩ := hwin.at_.three
    have B1 := Lib.hid b1
    have B2 := Lib.hid b2
    clear hwin b1 b2
    go_upto_region 5 with fail
    clear q0 q1 q2
    go_loopw [20] (fun iv wr => ∃ (i : Nat) (x y : Int), i ≤ wl.length ∧ iv = .int .i64 i ∧ Hid (x = totalL ((wl.map Prod.fst).take i)) ∧ Hid (y = totalL ((wl.map Prod.snd).take i)) ∧ Hid (bk wr (w.heap.size + 2) 104 [.int .i64 x, .int .i64 y]) ∧ Hid (bk wr (w.heap.size + 1) 104 [.int .i64 0, .int .i64 0]) ∧ Hid (owE 104 2 tCells w0.heap.size wr (.slice (some ⟨g, 0, none⟩) wl.length c) wl) ∧ Hid (Below w.heap.size w wr) ∧ w5.heap.size ≤ wr.heap.size) (fun iv _ => wl.length - (intOf iv).toNat)
    case atStart => exact ⟨0, 0, 0, Nat.zero_le _, rfl, Lib.hid rfl, Lib.hid rfl, B2, B1, HO, HB5, Nat.le_refl _⟩
    case round =>
      obtain ⟨i, x, y, hi', rfl, HX, HY, BT, BR, HR, HB, hz⟩ := hrel
      have hL8 := HL1.out
      by_cases hin : i < wl.length
      · rcases HR.out.filled tCells_len (0, 0) with ⟨h0, -⟩ | ⟨g', c', hv, -, -, -, hfl⟩
        · rw [h0] at hin; exact absurd hin (by simp)
        simp only [Value.slice.injEq, Option.some.injEq, Addr.mk.injEq, and_true, true_and] at hv
        obtain ⟨rfl, rfl⟩ := hv
        have hat := hfl.at_ i hin
        have d0 := hat 0 _ rfl
        have d1 := hat 1 _ rfl
        obtain ⟨t, ht⟩ : ∃ t, t = wl.getD i (0, 0) := ⟨_, rfl⟩
        have HT : Hid (wl[i]? = some t) := Lib.hid (by rw [ht, List.getD_eq_getElem?_getD, List.getElem?_eq_getElem hin]; rfl)
        rw [← ht, Nat.zero_add] at d0 d1
        rw [Nat.add_zero] at d0
        clear hat hfl ht
        obtain ⟨tx, ty⟩ := t
        have g1 : (i : Int) < (wl.length : Int) := by omega
        have g2 : 0 ≤ (i : Int) := by omega
        go_upto_region 7 with fail
        obtain ⟨W4, hW4⟩ : ∃ W4, W4 = wr.alloc (.cells #[.int .i64 tx, .int .i64 ty] 104) := ⟨_, rfl⟩
        rw [← hW4]
        have BN := bk.new wr 104 [.int .i64 tx, .int .i64 ty]
        rw [show ([Value.int .i64 tx, .int .i64 ty] : List Value).toArray = #[.int .i64 tx, .int .i64 ty] from rfl] at BN
        have hb4 := (Below.refl wr.heap.size wr).alloc (Nat.le_refl _) (.cells #[.int .i64 tx, .int .i64 ty] 104)
        rw [← hW4] at BN hb4
        have z4 : W4.heap.size = wr.heap.size + 1 := by rw [hW4]; simp
        clear hW4 d0 d1
        have BT4 := Lib.hid (BT.out.below hb4 (by omega))
        have BR4 := Lib.hid (BR.out.below hb4 (by omega))
        have HR4 := Lib.hid (HR.out.below hb4 (Nat.le_refl _))
        have HB4 := Lib.hid (HB.out.trans (hb4.mono (by omega)))
        have HG4 := Lib.hid (HG.out.below HB4.out (Nat.le_refl _))
        obtain ⟨⟨p0, p1⟩, -⟩ := BN.two
        clear BN hb4 BT BR HR HB
        go_wp2_with fail
        refine (implTally_any (w.heap.size + 2) _ _ x y tx ty W4 BT4.out rfl rfl HG4.out).mono ?_
        rintro e w6 ⟨rfl, ht6, hk6⟩
        have z6 := ht6.size
        have HT6 := Lib.hid ht6
        have HK6 := Lib.hid hk6
        clear ht6 hk6 p0 p1
        go_wp2
        go_roundw
        case rel =>
          refine ⟨i + 1, satVal x tx, satVal y ty, by omega, by go_num, Lib.hid ?_, Lib.hid ?_, HK6, Lib.hid (BR4.out.turned HT6.out (by omega)), Lib.hid (HR4.out.turned HT6.out (fun b hb => by simp [Value.ownBlock] at hb; omega)), Lib.hid (HB4.out.trans (HT6.out.below (by omega) (by omega))), by omega⟩
          · rw [totalL_next (x := tx) (by rw [List.getElem?_map, HT.out]; rfl), ← HX.out]
          · rw [totalL_next (x := ty) (by rw [List.getElem?_map, HT.out]; rfl), ← HY.out]
        case measure => simp [intOf] <;> omega
      · obtain rfl : i = wl.length := by omega
        have HXT : Hid (Tc = x) := Lib.hid (by rw [HRF.out.1, HX.out, List.take_of_length_le (by simp)])
        have HYT : Hid (Ts = y) := Lib.hid (by rw [HRF.out.2, HY.out, List.take_of_length_le (by simp)])
        obtain ⟨⟨p0, p1⟩, -⟩ := BT.out.two
        obtain ⟨⟨r0, r1⟩, f0, f1⟩ := BR.out.two
        go_wp2
        refine bodyPost_ret (v := .agg #[.int .i64 x, .int .i64 y]) (by simp [results, Tryz.results76, go_sem, r0, r1]) rfl ?_
        rw [HXT.out, HYT.out]
        have ht := ((Turned.refl (w.heap.size + 1) (w.heap.size + 2) wr).set (b := w.heap.size + 1) 0 (.int .i64 x) (by omega) (by omega)).set (b := w.heap.size + 1) 1 (.int .i64 y) (by omega) (by omega)
        exact ⟨rfl, HB.out.trans (ht.below (by omega) (by omega))⟩
set_option maxRecDepth 100000 in
theorem implCount_any (hi : Nat) (vc vs : Value) (r : RingD) (now : Int) (w : World) (hg : Handle w) (h1 : rd .i64 hi w vc r.2.2.1) (h2 : rd .i64 hi w vs r.2.2.2) (hh : hi ≤ w.heap.size) (hc : r.2.2.1.length ≤ 1048576) (hs : r.2.2.2.length ≤ 1048576) :
    Calls Tryz.prog 28 #[.agg #[.int .i64 r.1, .int .i64 r.2.1, vc, vs], .int .i64 now] w fun e w' => e = .returned (.int .i64 (ringTotal r now false)) ∧ Below w.heap.size w w' := by
  have HB0 : Hid (Below w.heap.size w (w.alloc (.cells #[.int .i64 r.1, .int .i64 r.2.1, vc, vs] 26))) := Lib.hid ((Below.refl _ _).alloc (Nat.le_refl _) _)
  have HT := Lib.hid (implTotal_any hi vc vs r now _ (hg.below HB0.out (Nat.le_refl _)) (h1.below HB0.out hh) (h2.below HB0.out hh) (Nat.le_trans hh HB0.out.size) hc hs)
  obtain ⟨A1, c1, rfl, -⟩ := h1.form
  obtain ⟨A2, c2, rfl, -⟩ := h2.form
  clear h1 h2 hg
  generalize ringTotal r now false = Tc at HT ⊢
  generalize ringTotal r now true = Ts at HT
  have hfd : ∀ W : World, (Instr.field 104 (.agg #[.int .i64 Tc, .int .i64 Ts]) 0).run Tryz.prog W = .ok (.int .i64 Tc) W := fun _ => by kernel_rfl
  go_enter Tryz.func28, Tryz.ntmps28
  go_wp2_with fail
  refine (HT.out).mono ?_
  rintro e w1 ⟨rfl, hb⟩
  go_wp2
  go_ret
  exact ⟨rfl, HB0.out.trans (hb.mono (by simp))⟩
set_option maxRecDepth 100000 in
theorem implSum_any (hi : Nat) (vc vs : Value) (r : RingD) (now : Int) (w : World) (hg : Handle w) (h1 : rd .i64 hi w vc r.2.2.1) (h2 : rd .i64 hi w vs r.2.2.2) (hh : hi ≤ w.heap.size) (hc : r.2.2.1.length ≤ 1048576) (hs : r.2.2.2.length ≤ 1048576) :
    Calls Tryz.prog 29 #[.agg #[.int .i64 r.1, .int .i64 r.2.1, vc, vs], .int .i64 now] w fun e w' => e = .returned (.int .i64 (ringTotal r now true)) ∧ Below w.heap.size w w' := by
  have HB0 : Hid (Below w.heap.size w (w.alloc (.cells #[.int .i64 r.1, .int .i64 r.2.1, vc, vs] 26))) := Lib.hid ((Below.refl _ _).alloc (Nat.le_refl _) _)
  have HT := Lib.hid (implTotal_any hi vc vs r now _ (hg.below HB0.out (Nat.le_refl _)) (h1.below HB0.out hh) (h2.below HB0.out hh) (Nat.le_trans hh HB0.out.size) hc hs)
  obtain ⟨A1, c1, rfl, -⟩ := h1.form
  obtain ⟨A2, c2, rfl, -⟩ := h2.form
  clear h1 h2 hg
  generalize ringTotal r now false = Tc at HT
  generalize ringTotal r now true = Ts at HT ⊢
  have hfd : ∀ W : World, (Instr.field 104 (.agg #[.int .i64 Tc, .int .i64 Ts]) 1).run Tryz.prog W = .ok (.int .i64 Ts) W := fun _ => by kernel_rfl
  go_enter Tryz.func29, Tryz.ntmps29
  go_wp2_with fail
  refine (HT.out).mono ?_
  rintro e w1 ⟨rfl, hb⟩
  go_wp2
  go_ret
  exact ⟨rfl, HB0.out.trans (hb.mono (by simp))⟩
end Go.Proofs.YtnmijppppcgobaaGreatDoor
set_option linter.unusedVariables false
namespace Go.Proofs.YtnmijppppcgobaaGreatDoor
open Go.ChangeShapes Go.WideShapes Go.ChangeAt Go.RowKit

set_option maxRecDepth 100000 in
set_option maxHeartbeats 4000000 in
theorem count_says (hi : Nat) (vh vc vs vl : Value) (a : AcctD) (now : Int) (w : World) (B1 B2 : Nat) (hg : Handle w) (hz : acctSmall 1048576 a) (hbig : acctBig a) (h : AcctR.rd hi w (aCells a vh vc vs vl) a) (hh : hi ≤ w.heap.size) (b1 : bk w B1 29 [.string (aId a), .int .i64 (aLim a), .int .i64 (aPos a), .int .i64 (aMost a), .int .i64 (aSum a), vh, .int .i64 (aR a).1, .int .i64 (aR a).2.1, vc, vs, vl]) (b2 : bk w B2 3 [.int .i64 now]) : chkB w 130 #[.pointer (some ⟨B1, 0, none⟩), .pointer (some ⟨B2, 0, none⟩)] (decide (aMost a < IntKind.i64.wrap (ringTotal (aR a) now false + 1))) := by
  refine ⟨Go.Proofs.enters_of Tryz.func130 (by kernel_rfl) rfl, fun W hW => ?_⟩
  obtain ⟨vh0, vc0, vs0, vl0, hcs, r1, r2, r3, r4⟩ := acct_rd h
  simp only [aCells, List.cons.injEq, and_true, true_and] at hcs
  obtain ⟨rfl, rfl, rfl, rfl⟩ := hcs
  have HRC := Lib.hid (fun V (hV : Below W.heap.size W V) => implCount_any hi _ _ (aR a) now V ((hg.below hW (Nat.le_refl _)).below hV (Nat.le_refl _)) ((r2.below hW hh).below hV (Nat.le_trans hh hW.size)) ((r3.below hW hh).below hV (Nat.le_trans hh hW.size)) (Nat.le_trans (Nat.le_trans hh hW.size) hV.size) hz.c hz.s)
  obtain ⟨AH, cH, rfl, -⟩ := Rep.slice_form r1
  obtain ⟨AC, cC, rfl, -⟩ := r2.form
  obtain ⟨AS, cS, rfl, -⟩ := r3.form
  obtain ⟨AL, cL, rfl, -⟩ := Rep.slice_form r4
  have z1 := b1.lt
  have hB := b1.below hW z1
  have c2 : W.cell? ⟨B2, 0, none⟩ = some (.int .i64 now) := (b2.below hW b2.lt).cell 0
  have z2 : B2 < W.heap.size := Nat.lt_of_lt_of_le b2.lt hW.size
  have z0 : B1 < W.heap.size := Nat.lt_of_lt_of_le z1 hW.size
  clear b1 b2
  clear r1 r2 r3 r4 h hz hbig hg hW
  generalize ringTotal (aR a) now false = rt at HRC ⊢
  generalize hq : IntKind.i64.wrap (rt + 1) = sv
  obtain ⟨id0, lim, pos, most, sum, hs, ⟨rs, rh, cs, ss⟩, sl⟩ := a
  simp only [aId, aLim, aPos, aMost, aSum, aH, aS] at HRC hB ⊢
  obtain ⟨⟨p0, p1, p2, p3, p4, p5, p6, p7, p8, p9, p10⟩, -⟩ := hB.eleven
  clear hB p0 p1 p2 p5 p10
  have P3 := Lib.hid p3
  have P4 := Lib.hid p4
  have P6 := Lib.hid p6
  have P7 := Lib.hid p7
  have P8 := Lib.hid p8
  have P9 := Lib.hid p9
  have C2 := Lib.hid c2
  clear p3 p4 p6 p7 p8 p9 c2
  have HX : Hid (Ext W W.drew) := Lib.hid (Ext.refl W).drew
  go_enter Tryz.func130, Tryz.ntmps130
  go_upto_region 1 with fail
  refine quiet_region (C := Ext W) (by kernel_rfl) (by kernel_rfl) HX.out ?_
  repeat (first
    | go_big_quiet_skip
    | (go_big_quiet_want; go_big_quiet_op; go_big_quiet_on)
    | (go_big_quiet_want; go_big_quiet_op; apply Exists.intro; refine ⟨fun _ _ => rfl, ?_⟩; go_big_quiet_on)
    | (go_big_quiet_want
       apply Exists.intro
       refine ⟨fun U hU => ?_, ?_⟩
       (have q0 := hU.cell P3.out (by omega)
        have q1 := hU.cell P4.out (by omega)
        have q2 := hU.cell P6.out (by omega)
        have q3 := hU.cell P7.out (by omega)
        have q4 := hU.cell P8.out (by omega)
        have q5 := hU.cell P9.out (by omega)
        have q6 := hU.cell C2.out (by omega)
        unfold Oper.quietAt
        go_simp
        rfl)
       simp only [Act.put, List.setIfInBounds_toArray, List.set_cons_zero, List.set_cons_succ]
       go_big_quiet_on)
    | (go_big_quiet_want
       apply Exists.intro
       refine ⟨fun U hU => ?_, ?_⟩
       (unfold Oper.quietAt
        go_simp
        go_at_call 28
        (with_reducible refine (HRC.out U hU.below).mono ?_)
        rintro e w4 ⟨rfl, hb4⟩
        exact ⟨rfl, hU.step hb4⟩)
       simp only [Act.put, List.setIfInBounds_toArray, List.set_cons_zero, List.set_cons_succ]
       go_big_quiet_on)
    | fail)
  refine wpQuiet_nil ?_
  intro W5 hW5
  by_cases g : most < sv
  all_goals
    go_wp2
    go_ret
    exact ⟨by simp [g], hW5.below⟩
set_option maxRecDepth 100000 in
set_option maxHeartbeats 4000000 in
theorem sum_says (hi : Nat) (vh vc vs vl : Value) (a : AcctD) (now n : Int) (w : World) (B1 B2 B3 : Nat) (hg : Handle w) (hz : acctSmall 1048576 a) (hbig : acctBig a) (h : AcctR.rd hi w (aCells a vh vc vs vl) a) (hh : hi ≤ w.heap.size) (b1 : bk w B1 29 [.string (aId a), .int .i64 (aLim a), .int .i64 (aPos a), .int .i64 (aMost a), .int .i64 (aSum a), vh, .int .i64 (aR a).1, .int .i64 (aR a).2.1, vc, vs, vl]) (b2 : bk w B2 3 [.int .i64 now]) (b3 : bk w B3 3 [.int .i64 n]) : chkB w 131 #[.pointer (some ⟨B1, 0, none⟩), .pointer (some ⟨B2, 0, none⟩), .pointer (some ⟨B3, 0, none⟩)] (decide (aSum a < satVal (ringTotal (aR a) now true) n)) := by
  refine ⟨Go.Proofs.enters_of Tryz.func131 (by kernel_rfl) rfl, fun W hW => ?_⟩
  obtain ⟨vh0, vc0, vs0, vl0, hcs, r1, r2, r3, r4⟩ := acct_rd h
  simp only [aCells, List.cons.injEq, and_true, true_and] at hcs
  obtain ⟨rfl, rfl, rfl, rfl⟩ := hcs
  have HRC := Lib.hid (fun V (hV : Below W.heap.size W V) => implSum_any hi _ _ (aR a) now V ((hg.below hW (Nat.le_refl _)).below hV (Nat.le_refl _)) ((r2.below hW hh).below hV (Nat.le_trans hh hW.size)) ((r3.below hW hh).below hV (Nat.le_trans hh hW.size)) (Nat.le_trans (Nat.le_trans hh hW.size) hV.size) hz.c hz.s)
  have HAS := Lib.hid (fun V (hV : Below W.heap.size W V) => implSat_any (ringTotal (aR a) now true) n V ((hg.below hW (Nat.le_refl _)).below hV (Nat.le_refl _)))
  obtain ⟨AH, cH, rfl, -⟩ := Rep.slice_form r1
  obtain ⟨AC, cC, rfl, -⟩ := r2.form
  obtain ⟨AS, cS, rfl, -⟩ := r3.form
  obtain ⟨AL, cL, rfl, -⟩ := Rep.slice_form r4
  have z1 := b1.lt
  have hB := b1.below hW z1
  have c2 : W.cell? ⟨B2, 0, none⟩ = some (.int .i64 now) := (b2.below hW b2.lt).cell 0
  have c3 : W.cell? ⟨B3, 0, none⟩ = some (.int .i64 n) := (b3.below hW b3.lt).cell 0
  have z2 : B2 < W.heap.size := Nat.lt_of_lt_of_le b2.lt hW.size
  have z3 : B3 < W.heap.size := Nat.lt_of_lt_of_le b3.lt hW.size
  have z0 : B1 < W.heap.size := Nat.lt_of_lt_of_le z1 hW.size
  clear b1 b2 b3
  clear r1 r2 r3 r4 h hz hbig hg hW
  generalize satVal (ringTotal (aR a) now true) n = sv at HAS ⊢
  generalize ringTotal (aR a) now true = rt at HRC HAS
  obtain ⟨id0, lim, pos, most, sum, hs, ⟨rs, rh, cs, ss⟩, sl⟩ := a
  simp only [aId, aLim, aPos, aMost, aSum, aH, aS] at HRC hB ⊢
  obtain ⟨⟨p0, p1, p2, p3, p4, p5, p6, p7, p8, p9, p10⟩, -⟩ := hB.eleven
  clear hB p0 p1 p2 p5 p10
  have P3 := Lib.hid p3
  have P4 := Lib.hid p4
  have P6 := Lib.hid p6
  have P7 := Lib.hid p7
  have P8 := Lib.hid p8
  have P9 := Lib.hid p9
  have C2 := Lib.hid c2
  have C3 := Lib.hid c3
  clear p3 p4 p6 p7 p8 p9 c2 c3
  have HX : Hid (Ext W W.drew) := Lib.hid (Ext.refl W).drew
  go_enter Tryz.func131, Tryz.ntmps131
  go_upto_region 1 with fail
  refine quiet_region (C := Ext W) (by kernel_rfl) (by kernel_rfl) HX.out ?_
  repeat (first
    | go_big_quiet_skip
    | (go_big_quiet_want; go_big_quiet_op; go_big_quiet_on)
    | (go_big_quiet_want; go_big_quiet_op; apply Exists.intro; refine ⟨fun _ _ => rfl, ?_⟩; go_big_quiet_on)
    | (go_big_quiet_want
       apply Exists.intro
       refine ⟨fun U hU => ?_, ?_⟩
       (have q0 := hU.cell P3.out (by omega)
        have q1 := hU.cell P4.out (by omega)
        have q2 := hU.cell P6.out (by omega)
        have q3 := hU.cell P7.out (by omega)
        have q4 := hU.cell P8.out (by omega)
        have q5 := hU.cell P9.out (by omega)
        have q6 := hU.cell C2.out (by omega)
        have q7 := hU.cell C3.out (by omega)
        unfold Oper.quietAt
        go_simp
        rfl)
       simp only [Act.put, List.setIfInBounds_toArray, List.set_cons_zero, List.set_cons_succ]
       go_big_quiet_on)
    | (go_big_quiet_want
       apply Exists.intro
       refine ⟨fun U hU => ?_, ?_⟩
       (unfold Oper.quietAt
        go_simp
        go_at_call 29
        (with_reducible refine (HRC.out U hU.below).mono ?_)
        rintro e w4 ⟨rfl, hb4⟩
        exact ⟨rfl, hU.step hb4⟩)
       simp only [Act.put, List.setIfInBounds_toArray, List.set_cons_zero, List.set_cons_succ]
       go_big_quiet_on)
    | (go_big_quiet_want
       apply Exists.intro
       refine ⟨fun U hU => ?_, ?_⟩
       (unfold Oper.quietAt
        go_simp
        go_at_call 70
        (with_reducible refine (HAS.out U hU.below).mono ?_)
        rintro e w4 ⟨rfl, hb4⟩
        exact ⟨rfl, hU.step hb4⟩)
       simp only [Act.put, List.setIfInBounds_toArray, List.set_cons_zero, List.set_cons_succ]
       go_big_quiet_on)
    | fail)
  refine wpQuiet_nil ?_
  intro W5 hW5
  by_cases g : sum < sv
  all_goals
    go_wp2
    go_ret
    exact ⟨by simp [g], hW5.below⟩
set_option maxRecDepth 100000 in
set_option maxHeartbeats 4000000 in
theorem limit_says (hi : Nat) (vh vc vs vl : Value) (a : AcctD) (n now : Int) (w : World) (B1 B2 B3 : Nat) (hg : Handle w) (hz : acctSmall 1048576 a) (hbig : acctBig a) (h : AcctR.rd hi w (aCells a vh vc vs vl) a) (hh : hi ≤ w.heap.size) (b1 : bk w B1 3 [.int .i64 n]) (b2 : bk w B2 29 [.string (aId a), .int .i64 (aLim a), .int .i64 (aPos a), .int .i64 (aMost a), .int .i64 (aSum a), vh, .int .i64 (aR a).1, .int .i64 (aR a).2.1, vc, vs, vl]) (b3 : bk w B3 3 [.int .i64 now]) : chk w 129 #[.pointer (some ⟨B1, 0, none⟩), .pointer (some ⟨B2, 0, none⟩), .pointer (some ⟨B3, 0, none⟩)] (firstC [codeIf (decide (roomOf a now < n)) 7, codeIf (decide (aMost a < IntKind.i64.wrap (ringTotal (aR a) now false + 1))) 8, codeIf (decide (aSum a < satVal (ringTotal (aR a) now true) n)) 9]) := by
  refine ⟨Go.Proofs.enters_of Tryz.func129 (by kernel_rfl) rfl, fun W hW => ?_⟩
  have b1 := b1.below hW b1.lt
  have b2 := b2.below hW b2.lt
  have b3 := b3.below hW b3.lt
  have HRM := Lib.hid (fun V (hV : Below W.heap.size W V) => implRoom_any hi _ _ _ _ a now V ((hg.below hW (Nat.le_refl _)).below hV (Nat.le_refl _)) hz hbig (Rep.below (R := AcctR) (Rep.below (R := AcctR) h hW hh) hV (Nat.le_trans hh hW.size)) (Nat.le_trans (Nat.le_trans hh hW.size) hV.size))
  have HFU := Lib.hid (fun V => implFundsCheck_any n (roomOf a now) V)
  have HCO := Lib.hid (fun V (hV : Below W.heap.size W V) => implRefuseIf_any 8 _ _ _ V (count_says hi _ _ _ _ a now V B2 B3 ((hg.below hW (Nat.le_refl _)).below hV (Nat.le_refl _)) hz hbig (Rep.below (R := AcctR) (Rep.below (R := AcctR) h hW hh) hV (Nat.le_trans hh hW.size)) (Nat.le_trans (Nat.le_trans hh hW.size) hV.size) (b2.below hV b2.lt) (b3.below hV b3.lt)))
  have HSU := Lib.hid (fun V (hV : Below W.heap.size W V) => implRefuseIf_any 9 _ _ _ V (sum_says hi _ _ _ _ a now n V B2 B3 B1 ((hg.below hW (Nat.le_refl _)).below hV (Nat.le_refl _)) hz hbig (Rep.below (R := AcctR) (Rep.below (R := AcctR) h hW hh) hV (Nat.le_trans hh hW.size)) (Nat.le_trans (Nat.le_trans hh hW.size) hV.size) (b2.below hV b2.lt) (b3.below hV b3.lt) (b1.below hV b1.lt)))
  obtain ⟨vh0, vc0, vs0, vl0, hcs, r1, r2, r3, r4⟩ := acct_rd h
  simp only [aCells, List.cons.injEq, and_true, true_and] at hcs
  obtain ⟨rfl, rfl, rfl, rfl⟩ := hcs
  obtain ⟨AH, cH, rfl, -⟩ := Rep.slice_form r1
  obtain ⟨AC, cC, rfl, -⟩ := r2.form
  obtain ⟨AS, cS, rfl, -⟩ := r3.form
  obtain ⟨AL, cL, rfl, -⟩ := Rep.slice_form r4
  clear r1 r2 r3 r4 h hz hbig hg hW
  generalize codeIf (decide (aMost a < IntKind.i64.wrap (ringTotal (aR a) now false + 1))) 8 = k2 at HCO ⊢
  generalize codeIf (decide (aSum a < satVal (ringTotal (aR a) now true) n)) 9 = k3 at HSU ⊢
  generalize hk1 : codeIf (decide (roomOf a now < n)) 7 = k1 at HFU ⊢
  clear hk1
  generalize roomOf a now = rm at HRM HFU
  obtain ⟨id0, lim, pos, most, sum, hs, ⟨rs, rh, cs, ss⟩, sl⟩ := a
  simp only [aId, aLim, aPos, aMost, aSum, aH, aS] at HRM HCO HSU b2 ⊢
  have HS : Hid (∀ V, Below W.heap.size W V → V.cell? ⟨B1, 0, none⟩ = some (.int .i64 n) ∧ V.cell? ⟨B3, 0, none⟩ = some (.int .i64 now) ∧ V.cell? ⟨B2, 0, none⟩ = some (.string id0) ∧ V.cell? ⟨B2, 1, none⟩ = some (.int .i64 lim) ∧ V.cell? ⟨B2, 2, none⟩ = some (.int .i64 pos) ∧ V.cell? ⟨B2, 3, none⟩ = some (.int .i64 most) ∧ V.cell? ⟨B2, 4, none⟩ = some (.int .i64 sum) ∧ V.cell? ⟨B2, 5, none⟩ = some (.slice AH hs.length cH) ∧ V.cell? ⟨B2, 6, none⟩ = some (.int .i64 rs) ∧ V.cell? ⟨B2, 7, none⟩ = some (.int .i64 rh) ∧ V.cell? ⟨B2, 8, none⟩ = some (.slice AC cs.length cC) ∧ V.cell? ⟨B2, 9, none⟩ = some (.slice AS ss.length cS) ∧ V.cell? ⟨B2, 10, none⟩ = some (.slice AL sl.length cL)) := Lib.hid fun V hV => by
    obtain ⟨⟨p0, p1, p2, p3, p4, p5, p6, p7, p8, p9, p10⟩, -⟩ := (b2.below hV b2.lt).eleven
    exact ⟨(b1.below hV b1.lt).cell 0, (b3.below hV b3.lt).cell 0, p0, p1, p2, p3, p4, p5, p6, p7, p8, p9, p10⟩
  have hD : Below W.heap.size W W.drew := (Below.refl _ _).drew
  clear b1 b2 b3
  go_enter Tryz.func129, Tryz.ntmps129
  go_upto_region 1 with fail
  go_region_held3 (fun V => V.cell? ⟨B1, 0, none⟩ = some (.int .i64 n) ∧ V.cell? ⟨B3, 0, none⟩ = some (.int .i64 now) ∧ V.cell? ⟨B2, 0, none⟩ = some (.string id0) ∧ V.cell? ⟨B2, 1, none⟩ = some (.int .i64 lim) ∧ V.cell? ⟨B2, 2, none⟩ = some (.int .i64 pos) ∧ V.cell? ⟨B2, 3, none⟩ = some (.int .i64 most) ∧ V.cell? ⟨B2, 4, none⟩ = some (.int .i64 sum) ∧ V.cell? ⟨B2, 5, none⟩ = some (.slice AH hs.length cH) ∧ V.cell? ⟨B2, 6, none⟩ = some (.int .i64 rs) ∧ V.cell? ⟨B2, 7, none⟩ = some (.int .i64 rh) ∧ V.cell? ⟨B2, 8, none⟩ = some (.slice AC cs.length cC) ∧ V.cell? ⟨B2, 9, none⟩ = some (.slice AS ss.length cS) ∧ V.cell? ⟨B2, 10, none⟩ = some (.slice AL sl.length cL)) (first | exact HS.out _ (by assumption) | exact HS.out _ (e4.alloc e4.size _)) (first | (go_at_call 22; (with_reducible refine (HRM.out _ hD).mono ?_); rintro e w1 ⟨rfl, hb1⟩; have e1 := hD.trans (hb1.mono hD.size)) | (go_at_call 60; (with_reducible refine (HFU.out _).mono ?_); rintro e w2 ⟨g1, lb1, rfl, hk1, hb2⟩; have e2 := e1.trans (hb2.mono e1.size)) | (go_at_call 84; (with_reducible refine (HCO.out _ e2).mono ?_); rintro e w3 ⟨g2, lb2, rfl, hk2, hb3⟩; have e3 := e2.trans (hb3.mono e2.size)) | (go_at_call 84; (with_reducible refine (HSU.out _ e3).mono ?_); rintro e w4 ⟨g3, lb3, rfl, hk3, hb4⟩; have e4 := e3.trans (hb4.mono e3.size)) | (go_at_call 55; refine (implDecideRow_any [(g1, lb1, k1), (g2, lb2, k2), (g3, lb3, k3)] [k1, k2, k3] _ _ w4 rfl (Nat.le_of_ble_eq_true rfl) (by have q1 := (hk1.later hb3).later hb4; have q2 := hk2.later hb4; intro x hx; simp only [List.mem_cons, List.not_mem_nil, or_false] at hx; rcases hx with rfl | rfl | rfl; (exact q1); (exact q2); exact hk3)).mono ?_; rintro e w5 ⟨rfl, hb5⟩; have e5 := e4.trans (hb5.mono e4.size)) | fail)
  all_goals (try go_wp2)
  all_goals go_ret
  all_goals exact ⟨rfl, e5⟩
set_option maxRecDepth 100000 in
set_option maxHeartbeats 4000000 in
theorem implLimitCheck_any (hi : Nat) (vh vc vs vl : Value) (a : AcctD) (n now : Int) (w : World) (hg : Handle w) (hz : acctSmall 1048576 a) (hbig : acctBig a) (h : AcctR.rd hi w (aCells a vh vc vs vl) a) (hh : hi ≤ w.heap.size) :
    Calls Tryz.prog 63 #[.agg #[.string (aId a), .int .i64 (aLim a), .int .i64 (aPos a), .int .i64 (aMost a), .int .i64 (aSum a), vh, .int .i64 (aR a).1, .int .i64 (aR a).2.1, vc, vs, vl], .int .i64 n, .int .i64 now] w (chkRes (firstC [codeIf (decide (roomOf a now < n)) 7, codeIf (decide (aMost a < IntKind.i64.wrap (ringTotal (aR a) now false + 1))) 8, codeIf (decide (aSum a < satVal (ringTotal (aR a) now true) n)) 9]) w) := by
  obtain ⟨vh0, vc0, vs0, vl0, hcs, r1, r2, r3, r4⟩ := acct_rd h
  simp only [aCells, List.cons.injEq, and_true, true_and] at hcs
  obtain ⟨rfl, rfl, rfl, rfl⟩ := hcs
  obtain ⟨AH, cH, rfl, -⟩ := Rep.slice_form r1
  obtain ⟨AC, cC, rfl, -⟩ := r2.form
  obtain ⟨AS, cS, rfl, -⟩ := r3.form
  obtain ⟨AL, cL, rfl, -⟩ := Rep.slice_form r4
  have HA := Lib.hid h
  clear r1 r2 r3 r4 h
  obtain ⟨W, hW⟩ : ∃ W, W = (((w.alloc (.cells #[.string (aId a), .int .i64 (aLim a), .int .i64 (aPos a), .int .i64 (aMost a), .int .i64 (aSum a), .slice AH (aH a).length cH, .int .i64 (aR a).1, .int .i64 (aR a).2.1, .slice AC (aR a).2.2.1.length cC, .slice AS (aR a).2.2.2.length cS, .slice AL (aS a).length cL] 29)).alloc (.cells #[.int .i64 n] 3)).alloc (.cells #[.int .i64 now] 3)) := ⟨_, rfl⟩
  have HB0 : Hid (Below w.heap.size w W) := Lib.hid (by rw [hW]; exact (((Below.refl _ _).alloc (Nat.le_refl _) _).alloc (by simp) _).alloc (by simp <;> omega) _)
  have b1 := bk.new w 29 [.string (aId a), .int .i64 (aLim a), .int .i64 (aPos a), .int .i64 (aMost a), .int .i64 (aSum a), .slice AH (aH a).length cH, .int .i64 (aR a).1, .int .i64 (aR a).2.1, .slice AC (aR a).2.2.1.length cC, .slice AS (aR a).2.2.2.length cS, .slice AL (aS a).length cL]
  have b1 : bk W w.heap.size 29 [.string (aId a), .int .i64 (aLim a), .int .i64 (aPos a), .int .i64 (aMost a), .int .i64 (aSum a), .slice AH (aH a).length cH, .int .i64 (aR a).1, .int .i64 (aR a).2.1, .slice AC (aR a).2.2.1.length cC, .slice AS (aR a).2.2.2.length cS, .slice AL (aS a).length cL] := by rw [hW]; exact (b1.alloc _).alloc _
  have b2 : bk W (w.heap.size + 1) 3 [.int .i64 n] := by rw [hW]; simpa [Nat.add_assoc] using ((bk.new (w.alloc _) 3 [.int .i64 n]).alloc _)
  have b3 : bk W (w.heap.size + 1 + 1) 3 [.int .i64 now] := by rw [hW]; simpa [Nat.add_assoc] using (bk.new ((w.alloc _).alloc _) 3 [.int .i64 now])
  have HLS := Lib.hid (limit_says hi _ _ _ _ a n now W (w.heap.size + 1) w.heap.size (w.heap.size + 1 + 1) (hg.below HB0.out (Nat.le_refl _)) hz hbig (Rep.below (R := AcctR) HA.out HB0.out hh) (Nat.le_trans hh HB0.out.size) b2 b1 b3)
  clear b1 b2 b3 HA hz hbig hg
  generalize firstC _ = kk at HLS ⊢
  obtain ⟨id0, lim, pos, most, sum, hs, ⟨rs, rh, cs, ss⟩, sl⟩ := a
  simp only [aId, aLim, aPos, aMost, aSum, aH, aS] at hW HLS ⊢
  go_enter Tryz.func63, Tryz.ntmps63
  go_upto_region 1 with fail
  rw [← hW]
  clear hW
  go_wp2
  go_ret
  exact ⟨_, _, rfl, HLS.out, HB0.out⟩
end Go.Proofs.YtnmijppppcgobaaGreatDoor
set_option linter.unusedVariables false
namespace Go.Proofs.YtnmijppppcgobaaGreatDoor
open Go.ChangeShapes Go.WideShapes Go.ChangeAt Go.RowKit

set_option maxRecDepth 100000 in
theorem swept_small {N : Nat} {a : AcctD} (h : acctSmall N a) (now : Int) : acctSmall N (acctSwept a now) := by
  unfold acctSwept
  split
  · exact ⟨Nat.le_trans (List.length_filter_le _ _) h.h, h.c, h.s, h.l, h.r⟩
  · exact h
set_option maxRecDepth 100000 in
theorem swept_big {a : AcctD} (h : acctBig a) (now : Int) : acctBig (acctSwept a now) := by
  unfold acctSwept
  split
  · exact ⟨h.i, Nat.le_trans (List.length_filter_le _ _) h.h, fun x hx => h.hi x (List.mem_filter.1 hx).1, h.c, h.s, h.l, h.li⟩
  · exact h
set_option maxRecDepth 100000 in
theorem acctI_zero (lo hi : Nat) (w : World) (h : lo ≤ hi) : AcctI lo hi w (.slice none 0 0) (.slice none 0 0) (.slice none 0 0) (.slice none 0 0) acctNil :=
  ⟨lo, lo, lo, lo, lo, lo, holds_none _ _ _, ring_mine_of (nums_none _ _ _ _) (nums_none _ _ _ _) (by intro b h; cases h), slots_none _ _ _, ⟨Nat.le_refl _, h, Nat.le_refl _, h, Nat.le_refl _, h⟩, .inl (Nat.le_refl _), .inl (Nat.le_refl _), .inl (Nat.le_refl _)⟩
end Go.Proofs.YtnmijppppcgobaaGreatDoor
set_option linter.unusedVariables false
namespace Go.Proofs.YtnmijppppcgobaaGreatDoor
open Go.ChangeShapes Go.WideShapes Go.ChangeAt Go.RowKit

section
variable {H : Type} {enc : TypeId × Value → H} {P : Program}
/-- every type can be read -/
def allRowed (P : Program) (ts : List TypeId) : Bool := ts.all fun t => P.readableRec t && decide (t < P.types.size)
set_option maxRecDepth 100000 in
theorem trodAll_below (hl : laidOutB P = true) {W W' : World} (hb : Below W.heap.size W W') :
    ∀ {ts : List TypeId} {vs : List Value} {ds : List (DataW H)} {ps : List MemPlace}, allRowed P ts = true → DataW.TrodAll enc P W 0 (fun _ => true) true ts vs ds ps → (∀ x ∈ ps, x.block < W.heap.size) →
      DataW.TrodAll enc P W' 0 (fun b => decide (b < W.heap.size)) true ts vs ds ps
  | [], vs, ds, ps, _, h, _ => by
    obtain ⟨rfl, rfl, rfl⟩ := trodAll_nil h
    exact trodAll_mk0
  | t :: ts, vs, ds, ps, hr, h, hlt => by
    obtain ⟨v0, vs0, d0, ds0, p0, q0, rfl, rfl, rfl, h0, r0⟩ := trodAll_cons h
    simp only [allRowed, List.all_cons, Bool.and_eq_true, decide_eq_true_eq] at hr
    exact trodAll_cons_mk (Below.trod hl hr.1.1 hr.1.2 h0 hb (fun x hx => hlt x (by simp [hx]))) (trodAll_below hl hb (by simpa [allRowed] using hr.2) r0 (fun x hx => hlt x (by simp [hx])))

set_option maxRecDepth 100000 in
theorem post_true {f : Func} {s : ChangeSpec} {apart fresh handsOn : Bool} {W W' : World} {args : Array Value} {ds gs : List (DataW H)} {before pv : List MemPlace} {tb : TypeId}
    (hl : laidOutB P = true) (hr : allRowed P f.params.toList = true) (hW : DataW.Whole enc P f.params.toList s.vars apart W args.toList ds gs before)
    (hfn : s.fn H (ds ++ gs) = { results := [.lit (.bool true)], args := ds, vars := gs }) (ht : f.resultTypes = #[tb]) (hu : P.underlying tb = some .bool)
    (hb : Below W.heap.size W W') (hvars : DataW.TrodVars enc P W' (fun b => decide (b < W.heap.size)) s.vars gs pv) :
    s.post enc P f apart fresh handsOn false W args (.bool true) W' := by
  have hW' := hW
  obtain ⟨p, q, hA, hV, rfl, _, _⟩ := hW
  have hlt := hW'.lt
  refine ⟨ds, gs, p ++ q, [], p, pv, hW', ?_, ?_, ?_, World.keptBut_mono (fun x hx => ?_) (hb.frame (fun _ => False)), fun h => by cases h⟩
  · rw [hfn, ht]
    exact trodAll_cons_mk (shut_bool hu true) trodAll_mk0
  · rw [hfn]
    exact trodAll_below hl hb hr hA (fun x hx => hlt x (by simp [hx]))
  · rw [hfn]
    exact hvars
  · exact hx.elim
end
end Go.Proofs.YtnmijppppcgobaaGreatDoor
