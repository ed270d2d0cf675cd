/- What the laws FnMove need besides; no conditions. -/
import Derived.Test.YtnmijppppcgobaaGreatDoorMv2
import Derived.Test.YtnmijppppcgobaaGreatDoorMrg5
import Derived.Test.YtnmijppppcgobaaGreatDoorMrg7
import Derived.Deep.RegionHeld3
import Derived.Deep.DeepCutAuto
import Derived.Test.YtnmijppppcgobaaGreatDoorMrg6
import Derived.Test.YtnmijppppcgobaaGreatDoorMv1
set_option linter.unusedVariables false
namespace Go.Proofs.YtnmijppppcgobaaGreatDoor
open Go.ChangeShapes Go.WideShapes Go.ChangeAt Go.RowKit

set_option maxRecDepth 100000 in
set_option maxHeartbeats 4000000 in
theorem implWithHoldS_any (lo hi : Nat) (vh vc vs vl : Value) (a : AcctD) (x : HoldD) (w : World) (hs : ∀ y ∈ aH a, y.1.size ≤ maxLen) (hx : x.1.size ≤ maxLen) (hz : acctSmall 1048576 a) (hI : AcctI lo hi w vh vc vs vl a) (hh : hi ≤ w.heap.size) (hlo : lo ≤ hi) :
    Calls Tryz.prog 62 #[.agg #[.string (aId a), .int .i64 (aLim a), .int .i64 (aPos a), .int .i64 (aMost a), .int .i64 (aSum a), vh, .int .i64 (aR a).1, .int .i64 (aR a).2.1, vc, vs, vl], .agg #[.string x.1, .int .i64 x.2.1, .int .i64 x.2.2]] w fun e w' => ∃ vh2, e = .returned (.agg #[.string (aId a), .int .i64 (aLim a), .int .i64 (aPos a), .int .i64 (aMost a), .int .i64 (aSum a), vh2, .int .i64 (aR a).1, .int .i64 (aR a).2.1, vc, vs, vl]) ∧ HoldsR.mine w.heap.size w'.heap.size w' [vh2] ((putH (aH a) x).1) ∧ Below w.heap.size w w' := by
  have hrd := hI.mine.rd
  obtain ⟨vh0, vc0, vs0, vl0, hcs, r1, r2, r3, r4⟩ := acct_rd hrd
  simp only [aCells, List.cons.injEq, and_true, true_and] at hcs
  obtain ⟨rfl, rfl, rfl, rfl⟩ := hcs
  have HC := Lib.hid (fun W (hW : Below w.heap.size w W) => implHoldPut_any hi _ (aH a) x W hz.h hs hx (Rep.below (R := HoldsR) r1 hW hh) (Nat.le_trans hh hW.size))
  obtain ⟨AH, cH, rfl, -⟩ := Rep.slice_form r1
  obtain ⟨AC, cC, rfl, -⟩ := r2.form
  obtain ⟨AS, cS, rfl, -⟩ := r3.form
  obtain ⟨AL, cL, rfl, -⟩ := Rep.slice_form r4
  clear r1 r2 r3 r4 hrd
  clear hz hs
  have HI := Lib.hid hI
  clear hI
  obtain ⟨⟨ls, okp⟩, hls⟩ : ∃ q, q = putH (aH a) x := ⟨_, rfl⟩
  rw [← hls] at HC ⊢
  clear hls hx
  obtain ⟨id0, lim, pos, most, sum, hs, ⟨rs, rh, cs, ss⟩, sl⟩ := a
  simp only [aId, aLim, aPos, aMost, aSum, aH, aS] at HI HC ⊢
  go_enter Tryz.func62, Tryz.ntmps62
  go_upto_region 1 with fail
  obtain ⟨W, hW⟩ : ∃ W, W = ((w.alloc (.cells #[.string id0, .int .i64 lim, .int .i64 pos, .int .i64 most, .int .i64 sum, .slice AH hs.length cH, .int .i64 rs, .int .i64 rh, .slice AC cs.length cC, .slice AS ss.length cS, .slice AL sl.length cL] 29)).alloc (.cells #[.string x.1, .int .i64 x.2.1, .int .i64 x.2.2] 33)).alloc (.cells #[.string ⟨#[]⟩, .int .i64 0, .int .i64 0, .int .i64 0, .int .i64 0, .slice none 0 0, .int .i64 0, .int .i64 0, .slice none 0 0, .slice none 0 0, .slice none 0 0] 29) := ⟨_, rfl⟩
  have b0 : bk W w.heap.size 29 [.string id0, .int .i64 lim, .int .i64 pos, .int .i64 most, .int .i64 sum, .slice AH hs.length cH, .int .i64 rs, .int .i64 rh, .slice AC cs.length cC, .slice AS ss.length cS, .slice AL sl.length cL] := by rw [hW]; exact (((bk.new w _ _).alloc _).alloc _)
  have b1 : bk W (w.heap.size + 1) 33 [.string x.1, .int .i64 x.2.1, .int .i64 x.2.2] := by rw [hW]; simpa [Nat.add_assoc] using ((bk.new (w.alloc (.cells #[.string id0, .int .i64 lim, .int .i64 pos, .int .i64 most, .int .i64 sum, .slice AH hs.length cH, .int .i64 rs, .int .i64 rh, .slice AC cs.length cC, .slice AS ss.length cS, .slice AL sl.length cL] 29)) 33 [.string x.1, .int .i64 x.2.1, .int .i64 x.2.2]).alloc _)
  have bR : bk W (w.heap.size + 1 + 1) 29 [.string ⟨#[]⟩, .int .i64 0, .int .i64 0, .int .i64 0, .int .i64 0, .slice none 0 0, .int .i64 0, .int .i64 0, .slice none 0 0, .slice none 0 0, .slice none 0 0] := by rw [hW]; simpa [Nat.add_assoc] using bk.new ((w.alloc (.cells #[.string id0, .int .i64 lim, .int .i64 pos, .int .i64 most, .int .i64 sum, .slice AH hs.length cH, .int .i64 rs, .int .i64 rh, .slice AC cs.length cC, .slice AS ss.length cS, .slice AL sl.length cL] 29)).alloc (.cells #[.string x.1, .int .i64 x.2.1, .int .i64 x.2.2] 33)) 29 [.string ⟨#[]⟩, .int .i64 0, .int .i64 0, .int .i64 0, .int .i64 0, .slice none 0 0, .int .i64 0, .int .i64 0, .slice none 0 0, .slice none 0 0, .slice none 0 0]
  have HB0 : Hid (Below w.heap.size w W) := Lib.hid (by rw [hW]; exact (((Below.refl _ _).alloc (Nat.le_refl _) _).alloc (by simp <;> omega) _).alloc (by simp <;> omega) _)
  have y0 : w.heap.size + 3 ≤ W.heap.size := by rw [hW]; simp
  rw [← hW]
  clear hW
  obtain ⟨⟨p0, p1, p2, p3, p4, p5, p6, p7, p8, p9, p10⟩, -⟩ := b0.eleven
  have q00 := b1.cell 0
  have q01 := b1.cell 1
  have q02 := b1.cell 2
  simp only [List.getElem?_cons_zero, List.getElem?_cons_succ] at q00 q01 q02
  clear b1
  have B0 := Lib.hid b0
  have BR := Lib.hid bR
  clear b0 bR
  go_wp2_with fail
  refine (HC.out W HB0.out).mono ?_
  rintro e w1 ⟨u, rfl, hu, hb1⟩
  obtain ⟨AN, cN, rfl, -⟩ := Rep.slice_form hu.rd
  have z1 := hb1.size
  have HU := Lib.hid hu
  have HM1 := Lib.hid (HI.out.below (HB0.out.trans (hb1.mono HB0.out.size)) hh)
  have HB1 : Hid (Below w.heap.size w w1) := Lib.hid (HB0.out.trans (hb1.mono HB0.out.size))
  have C0 := Lib.hid (B0.out.below hb1 (by omega))
  have CR := Lib.hid (BR.out.below hb1 (by omega))
  clear hu hb1 HB0 HI HC B0 BR p0 p1 p2 p3 p4 p5 p6 p7 p8 p9 p10 q00 q01 q02
  obtain ⟨⟨p0, p1, p2, p3, p4, p5, p6, p7, p8, p9, p10⟩, f0, f1, f2, f3, f4, f5, f6, f7, f8, f9, f10⟩ := C0.out.eleven
  have hq := (C0.out.set 5 (.slice AN ls.length cN))
  have ht5 := ((Turned.refl w.heap.size (w.heap.size + 1) w1).set (b := w.heap.size) 5 (.slice AN ls.length cN) (by omega) (by omega))
  go_upto_region 2 with fail
  obtain ⟨W6, hW6⟩ : ∃ W6, W6 = (w1.setCell ⟨w.heap.size, 5, none⟩ (.slice AN ls.length cN)) := ⟨_, rfl⟩
  rw [← hW6] at hq ht5 ⊢
  clear hW6
  have z6 := ht5.size
  have HM6 := Lib.hid (HM1.out.turned ht5 (.inl hh) (by omega))
  have HU6 := Lib.hid (HU.out.turned ht5 (.inr (by omega)) (Nat.le_refl _))
  have HB6 := Lib.hid (HB1.out.trans (ht5.below (B := w.heap.size) (by omega) (by omega)))
  have bR := CR.out.under ht5 (by omega)
  have b2 : bk W6 w.heap.size 29 [.string id0, .int .i64 lim, .int .i64 pos, .int .i64 most, .int .i64 sum, .slice AN ls.length cN, .int .i64 rs, .int .i64 rh, .slice AC cs.length cC, .slice AS ss.length cS, .slice AL sl.length cL] := hq
  clear hq ht5 HM1 HU HB1 C0 CR p0 p1 p2 p3 p4 p5 p6 p7 p8 p9 p10 f0 f1 f2 f3 f4 f5 f6 f7 f8 f9 f10
  obtain ⟨⟨p0, p1, p2, p3, p4, p5, p6, p7, p8, p9, p10⟩, -⟩ := b2.eleven
  obtain ⟨⟨r0, r1, r2, r3, r4, r5, r6, r7, r8, r9, r10⟩, g0, g1, g2, g3, g4, g5, g6, g7, g8, g9, g10⟩ := bR.eleven
  clear b2 bR
  go_wp2
  refine bodyPost_ret (v := .agg #[.string id0, .int .i64 lim, .int .i64 pos, .int .i64 most, .int .i64 sum, .slice AN ls.length cN, .int .i64 rs, .int .i64 rh, .slice AC cs.length cC, .slice AS ss.length cS, .slice AL sl.length cL]) (by simp [results, Tryz.results62, go_sem, r0, r1, r2, r3, r4, r5, r6, r7, r8, r9, r10]) rfl ?_
  have ht := ((((((((((((Turned.refl (w.heap.size + 1 + 1) (w.heap.size + 1 + 1 + 1) W6).set (b := w.heap.size + 1 + 1) 0 (.string id0) (by omega) (by omega)).set (b := w.heap.size + 1 + 1) 1 (.int .i64 lim) (by omega) (by omega)).set (b := w.heap.size + 1 + 1) 2 (.int .i64 pos) (by omega) (by omega)).set (b := w.heap.size + 1 + 1) 3 (.int .i64 most) (by omega) (by omega)).set (b := w.heap.size + 1 + 1) 4 (.int .i64 sum) (by omega) (by omega)).set (b := w.heap.size + 1 + 1) 5 (.slice AN ls.length cN) (by omega) (by omega)).set (b := w.heap.size + 1 + 1) 6 (.int .i64 rs) (by omega) (by omega)).set (b := w.heap.size + 1 + 1) 7 (.int .i64 rh) (by omega) (by omega)).set (b := w.heap.size + 1 + 1) 8 (.slice AC cs.length cC) (by omega) (by omega)).set (b := w.heap.size + 1 + 1) 9 (.slice AS ss.length cS) (by omega) (by omega)).set (b := w.heap.size + 1 + 1) 10 (.slice AL sl.length cL) (by omega) (by omega))
  have hsz := ht.size
  refine ⟨_, rfl, ?_, HB6.out.trans (ht.below (by omega) (by omega))⟩
  exact (HU6.out.turned ht (.inr (by omega)) (by omega)).mono (by omega) (by omega)
set_option maxRecDepth 100000 in
set_option maxHeartbeats 4000000 in
theorem implWithoutHoldS_any (lo hi : Nat) (vh vc vs vl : Value) (a : AcctD) (id : ByteArray) (w : World) (hz : acctSmall 1048576 a) (hI : AcctI lo hi w vh vc vs vl a) (hh : hi ≤ w.heap.size) (hlo : lo ≤ hi) :
    Calls Tryz.prog 61 #[.agg #[.string (aId a), .int .i64 (aLim a), .int .i64 (aPos a), .int .i64 (aMost a), .int .i64 (aSum a), vh, .int .i64 (aR a).1, .int .i64 (aR a).2.1, vc, vs, vl], .string id] w fun e w' => ∃ vh2, e = .returned (.agg #[.string (aId a), .int .i64 (aLim a), .int .i64 (aPos a), .int .i64 (aMost a), .int .i64 (aSum a), vh2, .int .i64 (aR a).1, .int .i64 (aR a).2.1, vc, vs, vl]) ∧ HoldsR.mine w.heap.size w'.heap.size w' [vh2] (dropL (aH a) id) ∧ Below w.heap.size w w' := by
  have hrd := hI.mine.rd
  obtain ⟨vh0, vc0, vs0, vl0, hcs, r1, r2, r3, r4⟩ := acct_rd hrd
  simp only [aCells, List.cons.injEq, and_true, true_and] at hcs
  obtain ⟨rfl, rfl, rfl, rfl⟩ := hcs
  have HC := Lib.hid (fun W (hW : Below w.heap.size w W) => implHoldDrop_any hi _ (aH a) id W hz.h (Rep.below (R := HoldsR) r1 hW hh) (Nat.le_trans hh hW.size))
  obtain ⟨AH, cH, rfl, -⟩ := Rep.slice_form r1
  obtain ⟨AC, cC, rfl, -⟩ := r2.form
  obtain ⟨AS, cS, rfl, -⟩ := r3.form
  obtain ⟨AL, cL, rfl, -⟩ := Rep.slice_form r4
  clear r1 r2 r3 r4 hrd
  clear hz
  have HI := Lib.hid hI
  clear hI
  obtain ⟨ls, hls⟩ : ∃ q, q = dropL (aH a) id := ⟨_, rfl⟩
  rw [← hls] at HC ⊢
  clear hls
  obtain ⟨id0, lim, pos, most, sum, hs, ⟨rs, rh, cs, ss⟩, sl⟩ := a
  simp only [aId, aLim, aPos, aMost, aSum, aH, aS] at HI HC ⊢
  go_enter Tryz.func61, Tryz.ntmps61
  go_upto_region 1 with fail
  obtain ⟨W, hW⟩ : ∃ W, W = (w.alloc (.cells #[.string id0, .int .i64 lim, .int .i64 pos, .int .i64 most, .int .i64 sum, .slice AH hs.length cH, .int .i64 rs, .int .i64 rh, .slice AC cs.length cC, .slice AS ss.length cS, .slice AL sl.length cL] 29)).alloc (.cells #[.string ⟨#[]⟩, .int .i64 0, .int .i64 0, .int .i64 0, .int .i64 0, .slice none 0 0, .int .i64 0, .int .i64 0, .slice none 0 0, .slice none 0 0, .slice none 0 0] 29) := ⟨_, rfl⟩
  have b0 : bk W w.heap.size 29 [.string id0, .int .i64 lim, .int .i64 pos, .int .i64 most, .int .i64 sum, .slice AH hs.length cH, .int .i64 rs, .int .i64 rh, .slice AC cs.length cC, .slice AS ss.length cS, .slice AL sl.length cL] := by rw [hW]; exact ((bk.new w _ _).alloc _)
  have bR : bk W (w.heap.size + 1) 29 [.string ⟨#[]⟩, .int .i64 0, .int .i64 0, .int .i64 0, .int .i64 0, .slice none 0 0, .int .i64 0, .int .i64 0, .slice none 0 0, .slice none 0 0, .slice none 0 0] := by rw [hW]; simpa [Nat.add_assoc] using bk.new (w.alloc (.cells #[.string id0, .int .i64 lim, .int .i64 pos, .int .i64 most, .int .i64 sum, .slice AH hs.length cH, .int .i64 rs, .int .i64 rh, .slice AC cs.length cC, .slice AS ss.length cS, .slice AL sl.length cL] 29)) 29 [.string ⟨#[]⟩, .int .i64 0, .int .i64 0, .int .i64 0, .int .i64 0, .slice none 0 0, .int .i64 0, .int .i64 0, .slice none 0 0, .slice none 0 0, .slice none 0 0]
  have HB0 : Hid (Below w.heap.size w W) := Lib.hid (by rw [hW]; exact ((Below.refl _ _).alloc (Nat.le_refl _) _).alloc (by simp <;> omega) _)
  have y0 : w.heap.size + 2 ≤ W.heap.size := by rw [hW]; simp
  rw [← hW]
  clear hW
  obtain ⟨⟨p0, p1, p2, p3, p4, p5, p6, p7, p8, p9, p10⟩, -⟩ := b0.eleven
  have B0 := Lib.hid b0
  have BR := Lib.hid bR
  clear b0 bR
  go_wp2_with fail
  refine (HC.out W HB0.out).mono ?_
  rintro e w1 ⟨u, rfl, hu, hb1⟩
  obtain ⟨AN, cN, rfl, -⟩ := Rep.slice_form hu.rd
  have z1 := hb1.size
  have HU := Lib.hid hu
  have HM1 := Lib.hid (HI.out.below (HB0.out.trans (hb1.mono HB0.out.size)) hh)
  have HB1 : Hid (Below w.heap.size w w1) := Lib.hid (HB0.out.trans (hb1.mono HB0.out.size))
  have C0 := Lib.hid (B0.out.below hb1 (by omega))
  have CR := Lib.hid (BR.out.below hb1 (by omega))
  clear hu hb1 HB0 HI HC B0 BR p0 p1 p2 p3 p4 p5 p6 p7 p8 p9 p10 
  obtain ⟨⟨p0, p1, p2, p3, p4, p5, p6, p7, p8, p9, p10⟩, f0, f1, f2, f3, f4, f5, f6, f7, f8, f9, f10⟩ := C0.out.eleven
  have hq := (C0.out.set 5 (.slice AN ls.length cN))
  have ht5 := ((Turned.refl w.heap.size (w.heap.size + 1) w1).set (b := w.heap.size) 5 (.slice AN ls.length cN) (by omega) (by omega))
  go_upto_region 2 with fail
  obtain ⟨W6, hW6⟩ : ∃ W6, W6 = (w1.setCell ⟨w.heap.size, 5, none⟩ (.slice AN ls.length cN)) := ⟨_, rfl⟩
  rw [← hW6] at hq ht5 ⊢
  clear hW6
  have z6 := ht5.size
  have HM6 := Lib.hid (HM1.out.turned ht5 (.inl hh) (by omega))
  have HU6 := Lib.hid (HU.out.turned ht5 (.inr (by omega)) (Nat.le_refl _))
  have HB6 := Lib.hid (HB1.out.trans (ht5.below (B := w.heap.size) (by omega) (by omega)))
  have bR := CR.out.under ht5 (by omega)
  have b2 : bk W6 w.heap.size 29 [.string id0, .int .i64 lim, .int .i64 pos, .int .i64 most, .int .i64 sum, .slice AN ls.length cN, .int .i64 rs, .int .i64 rh, .slice AC cs.length cC, .slice AS ss.length cS, .slice AL sl.length cL] := hq
  clear hq ht5 HM1 HU HB1 C0 CR p0 p1 p2 p3 p4 p5 p6 p7 p8 p9 p10 f0 f1 f2 f3 f4 f5 f6 f7 f8 f9 f10
  obtain ⟨⟨p0, p1, p2, p3, p4, p5, p6, p7, p8, p9, p10⟩, -⟩ := b2.eleven
  obtain ⟨⟨r0, r1, r2, r3, r4, r5, r6, r7, r8, r9, r10⟩, g0, g1, g2, g3, g4, g5, g6, g7, g8, g9, g10⟩ := bR.eleven
  clear b2 bR
  go_wp2
  refine bodyPost_ret (v := .agg #[.string id0, .int .i64 lim, .int .i64 pos, .int .i64 most, .int .i64 sum, .slice AN ls.length cN, .int .i64 rs, .int .i64 rh, .slice AC cs.length cC, .slice AS ss.length cS, .slice AL sl.length cL]) (by simp [results, Tryz.results61, go_sem, r0, r1, r2, r3, r4, r5, r6, r7, r8, r9, r10]) rfl ?_
  have ht := ((((((((((((Turned.refl (w.heap.size + 1) (w.heap.size + 1 + 1) W6).set (b := w.heap.size + 1) 0 (.string id0) (by omega) (by omega)).set (b := w.heap.size + 1) 1 (.int .i64 lim) (by omega) (by omega)).set (b := w.heap.size + 1) 2 (.int .i64 pos) (by omega) (by omega)).set (b := w.heap.size + 1) 3 (.int .i64 most) (by omega) (by omega)).set (b := w.heap.size + 1) 4 (.int .i64 sum) (by omega) (by omega)).set (b := w.heap.size + 1) 5 (.slice AN ls.length cN) (by omega) (by omega)).set (b := w.heap.size + 1) 6 (.int .i64 rs) (by omega) (by omega)).set (b := w.heap.size + 1) 7 (.int .i64 rh) (by omega) (by omega)).set (b := w.heap.size + 1) 8 (.slice AC cs.length cC) (by omega) (by omega)).set (b := w.heap.size + 1) 9 (.slice AS ss.length cS) (by omega) (by omega)).set (b := w.heap.size + 1) 10 (.slice AL sl.length cL) (by omega) (by omega))
  have hsz := ht.size
  refine ⟨_, rfl, ?_, HB6.out.trans (ht.below (by omega) (by omega))⟩
  exact (HU6.out.turned ht (.inr (by omega)) (by omega)).mono (by omega) (by omega)
end Go.Proofs.YtnmijppppcgobaaGreatDoor
set_option linter.unusedVariables false
namespace Go.Proofs.YtnmijppppcgobaaGreatDoor
open Go.ChangeShapes Go.WideShapes Go.ChangeAt Go.RowKit

end Go.Proofs.YtnmijppppcgobaaGreatDoor
set_option linter.unusedVariables false
namespace Go.Proofs.YtnmijppppcgobaaGreatDoor
open Go.ChangeShapes Go.WideShapes Go.ChangeAt Go.RowKit

/-- two intervals apart -/
def ap (l h l' h' : Nat) : Prop := h ≤ l' ∨ h' ≤ l
/-- the parts of two accounts in six intervals -/
structure Six (lo hi : Nat) (w : World) (vh vc vs vl : Value) (a : AcctD) (vh2 vc2 vs2 vl2 : Value) (b : AcctD) (l1 h1 l2 h2 l3 h3 l4 h4 l5 h5 l6 h6 : Nat) : Prop where
  m1 : HoldsR.mine l1 h1 w [vh] (aH a)
  m2 : RingR.mine l2 h2 w [.int .i64 (aR a).1, .int .i64 (aR a).2.1, vc, vs] (aR a)
  m3 : SlotsR.mine l3 h3 w [vl] (aS a)
  m4 : HoldsR.mine l4 h4 w [vh2] (aH b)
  m5 : RingR.mine l5 h5 w [.int .i64 (aR b).1, .int .i64 (aR b).2.1, vc2, vs2] (aR b)
  m6 : SlotsR.mine l6 h6 w [vl2] (aS b)
  i1 : lo ≤ l1 ∧ h1 ≤ hi
  i2 : lo ≤ l2 ∧ h2 ≤ hi
  i3 : lo ≤ l3 ∧ h3 ≤ hi
  i4 : lo ≤ l4 ∧ h4 ≤ hi
  i5 : lo ≤ l5 ∧ h5 ≤ hi
  i6 : lo ≤ l6 ∧ h6 ≤ hi
  d12 : ap l1 h1 l2 h2
  d13 : ap l1 h1 l3 h3
  d23 : ap l2 h2 l3 h3
  d45 : ap l4 h4 l5 h5
  d46 : ap l4 h4 l6 h6
  d56 : ap l5 h5 l6 h6
  d14 : ap l1 h1 l4 h4
  d15 : ap l1 h1 l5 h5
  d16 : ap l1 h1 l6 h6
  d24 : ap l2 h2 l4 h4
  d25 : ap l2 h2 l5 h5
  d26 : ap l2 h2 l6 h6
  d34 : ap l3 h3 l4 h4
  d35 : ap l3 h3 l5 h5
  d36 : ap l3 h3 l6 h6
set_option maxRecDepth 100000 in
theorem Six.left {lo hi : Nat} {w : World} {vh vc vs vl : Value} {a : AcctD} {vh2 vc2 vs2 vl2 : Value} {b : AcctD} {l1 h1 l2 h2 l3 h3 l4 h4 l5 h5 l6 h6 : Nat} (s : Six lo hi w vh vc vs vl a vh2 vc2 vs2 vl2 b l1 h1 l2 h2 l3 h3 l4 h4 l5 h5 l6 h6) : AcctI lo hi w vh vc vs vl a :=
  ⟨l1, h1, l2, h2, l3, h3, s.m1, s.m2, s.m3, ⟨s.i1.1, s.i1.2, s.i2.1, s.i2.2, s.i3.1, s.i3.2⟩, s.d12, s.d13, s.d23⟩
set_option maxRecDepth 100000 in
theorem Six.right {lo hi : Nat} {w : World} {vh vc vs vl : Value} {a : AcctD} {vh2 vc2 vs2 vl2 : Value} {b : AcctD} {l1 h1 l2 h2 l3 h3 l4 h4 l5 h5 l6 h6 : Nat} (s : Six lo hi w vh vc vs vl a vh2 vc2 vs2 vl2 b l1 h1 l2 h2 l3 h3 l4 h4 l5 h5 l6 h6) : AcctI lo hi w vh2 vc2 vs2 vl2 b :=
  ⟨l4, h4, l5, h5, l6, h6, s.m4, s.m5, s.m6, ⟨s.i4.1, s.i4.2, s.i5.1, s.i5.2, s.i6.1, s.i6.2⟩, s.d45, s.d46, s.d56⟩
set_option maxRecDepth 100000 in
theorem Six.below {lo hi B : Nat} {w w' : World} {vh vc vs vl : Value} {a : AcctD} {vh2 vc2 vs2 vl2 : Value} {b : AcctD} {l1 h1 l2 h2 l3 h3 l4 h4 l5 h5 l6 h6 : Nat} (s : Six lo hi w vh vc vs vl a vh2 vc2 vs2 vl2 b l1 h1 l2 h2 l3 h3 l4 h4 l5 h5 l6 h6) (hb : Below B w w') (hB : hi ≤ B) : Six lo hi w' vh vc vs vl a vh2 vc2 vs2 vl2 b l1 h1 l2 h2 l3 h3 l4 h4 l5 h5 l6 h6 :=
  { s with
    m1 := s.m1.below hb (Nat.le_trans s.i1.2 hB)
    m2 := s.m2.below hb (Nat.le_trans s.i2.2 hB)
    m3 := s.m3.below hb (Nat.le_trans s.i3.2 hB)
    m4 := s.m4.below hb (Nat.le_trans s.i4.2 hB)
    m5 := s.m5.below hb (Nat.le_trans s.i5.2 hB)
    m6 := s.m6.below hb (Nat.le_trans s.i6.2 hB) }
set_option maxRecDepth 100000 in
theorem Six.turned {lo hi lo' hi' : Nat} {w w' : World} {vh vc vs vl : Value} {a : AcctD} {vh2 vc2 vs2 vl2 : Value} {b : AcctD} {l1 h1 l2 h2 l3 h3 l4 h4 l5 h5 l6 h6 : Nat} (s : Six lo hi w vh vc vs vl a vh2 vc2 vs2 vl2 b l1 h1 l2 h2 l3 h3 l4 h4 l5 h5 l6 h6) (ht : Turned lo' hi' w w') (h : hi ≤ lo' ∨ hi' ≤ lo) (hw : hi ≤ w.heap.size) : Six lo hi w' vh vc vs vl a vh2 vc2 vs2 vl2 b l1 h1 l2 h2 l3 h3 l4 h4 l5 h5 l6 h6 := by
  have i1 := s.i1
  have i2 := s.i2
  have i3 := s.i3
  have i4 := s.i4
  have i5 := s.i5
  have i6 := s.i6
  exact { s with
    m1 := s.m1.turned ht (by omega) (by omega)
    m2 := s.m2.turned ht (by omega) (by omega)
    m3 := s.m3.turned ht (by omega) (by omega)
    m4 := s.m4.turned ht (by omega) (by omega)
    m5 := s.m5.turned ht (by omega) (by omega)
    m6 := s.m6.turned ht (by omega) (by omega) }
/-- two accounts and a code as the program gives them back -/
def acctRes2I (a b : AcctD) (k : Int) (w : World) (e : Ending) (w' : World) : Prop := ∃ vh vc vs vl vh2 vc2 vs2 vl2 l1 h1 l2 h2 l3 h3 l4 h4 l5 h5 l6 h6, e = .returned (.tuple #[.agg #[.string (aId a), .int .i64 (aLim a), .int .i64 (aPos a), .int .i64 (aMost a), .int .i64 (aSum a), vh, .int .i64 (aR a).1, .int .i64 (aR a).2.1, vc, vs, vl], .agg #[.string (aId b), .int .i64 (aLim b), .int .i64 (aPos b), .int .i64 (aMost b), .int .i64 (aSum b), vh2, .int .i64 (aR b).1, .int .i64 (aR b).2.1, vc2, vs2, vl2], .int .i64 k]) ∧ Six w.heap.size w'.heap.size w' vh vc vs vl a vh2 vc2 vs2 vl2 b l1 h1 l2 h2 l3 h3 l4 h4 l5 h5 l6 h6 ∧ Below w.heap.size w w'
set_option maxRecDepth 100000 in
theorem acctRes2I.res {a b : AcctD} {k : Int} {w w' : World} {e : Ending} (h : acctRes2I a b k w e w') : acctRes2 a b k w e w' := by
  obtain ⟨vh, vc, vs, vl, vh2, vc2, vs2, vl2, l1, h1, l2, h2, l3, h3, l4, h4, l5, h5, l6, h6, he, hs, hb⟩ := h
  exact ⟨vh, vc, vs, vl, vh2, vc2, vs2, vl2, he, hs.left.mine, hs.right.mine, hb⟩
end Go.Proofs.YtnmijppppcgobaaGreatDoor
set_option linter.unusedVariables false
namespace Go.Proofs.YtnmijppppcgobaaGreatDoor
open Go.ChangeShapes Go.WideShapes Go.ChangeAt Go.RowKit

set_option maxRecDepth 100000 in
theorem below_alloc {W V : World} (h : Below W.heap.size W V) (o : Obj) : Below W.heap.size W (V.alloc o) := h.alloc h.size o
set_option maxRecDepth 100000 in
theorem below_step {W V V' : World} (h : Below W.heap.size W V) (h' : Below V.heap.size V V') : Below W.heap.size W V' := h.trans (h'.mono h.size)
set_option maxRecDepth 100000 in
theorem below_set11 {W V : World} {b : Nat} (h : Below W.heap.size W V) (hb : W.heap.size ≤ b) (a0 a1 a2 a3 a4 a5 a6 a7 a8 a9 a10 : Value) : Below W.heap.size W (((((((((((V.setCell ⟨b, 0, none⟩ a0).setCell ⟨b, 1, none⟩ a1).setCell ⟨b, 2, none⟩ a2).setCell ⟨b, 3, none⟩ a3).setCell ⟨b, 4, none⟩ a4).setCell ⟨b, 5, none⟩ a5).setCell ⟨b, 6, none⟩ a6).setCell ⟨b, 7, none⟩ a7).setCell ⟨b, 8, none⟩ a8).setCell ⟨b, 9, none⟩ a9).setCell ⟨b, 10, none⟩ a10) := by
  repeat (refine Below.setCell ?_ (show W.heap.size ≤ b from hb) _)
  exact h
/-- an account's block, still empty -/
abbrev bk0 (w : World) (g : Nat) (t : TypeId) : Prop := bk w g t [.string ⟨#[]⟩, .int .i64 0, .int .i64 0, .int .i64 0, .int .i64 0, .slice none 0 0, .int .i64 0, .int .i64 0, .slice none 0 0, .slice none 0 0, .slice none 0 0]
abbrev obj0 (t : TypeId) : Obj := .cells #[.string ⟨#[]⟩, .int .i64 0, .int .i64 0, .int .i64 0, .int .i64 0, .slice none 0 0, .int .i64 0, .int .i64 0, .slice none 0 0, .slice none 0 0, .slice none 0 0] t
set_option maxRecDepth 100000 in
theorem bk0_one {V V' : World} {t : TypeId} (h : Below (V.alloc (obj0 t)).heap.size (V.alloc (obj0 t)) V') : bk0 V' V.heap.size t := (bk.new V t _).below h (by simp)
set_option maxRecDepth 100000 in
theorem bk0_fst {V V' : World} {t : TypeId} (h : Below ((V.alloc (obj0 t)).alloc (obj0 t)).heap.size ((V.alloc (obj0 t)).alloc (obj0 t)) V') : bk0 V' V.heap.size t := ((bk.new V t _).alloc _).below h (by simp <;> omega)
set_option maxRecDepth 100000 in
theorem bk0_snd {V V' : World} {t : TypeId} (h : Below ((V.alloc (obj0 t)).alloc (obj0 t)).heap.size ((V.alloc (obj0 t)).alloc (obj0 t)) V') : bk0 V' (V.heap.size + 1) t := by
  have h1 := (bk.new (V.alloc (obj0 t)) t [.string ⟨#[]⟩, .int .i64 0, .int .i64 0, .int .i64 0, .int .i64 0, .slice none 0 0, .int .i64 0, .int .i64 0, .slice none 0 0, .slice none 0 0, .slice none 0 0]).below h (by simp)
  simpa using h1
set_option maxRecDepth 100000 in
theorem bk0_oneD {V V' : World} {t : TypeId} (h : Below (V.alloc (obj0 t)).drew.heap.size (V.alloc (obj0 t)).drew V') : bk0 V' V.heap.size t := (bk.drew (bk.new V t _)).below h (show V.heap.size < (V.alloc (obj0 t)).heap.size by simp)
set_option maxRecDepth 100000 in
theorem bk0_fstD {V V' : World} {t : TypeId} (h : Below ((V.alloc (obj0 t)).alloc (obj0 t)).drew.heap.size ((V.alloc (obj0 t)).alloc (obj0 t)).drew V') : bk0 V' V.heap.size t := (bk.drew ((bk.new V t _).alloc _)).below h (show V.heap.size < ((V.alloc (obj0 t)).alloc (obj0 t)).heap.size by simp <;> omega)
set_option maxRecDepth 100000 in
theorem bk0_sndD {V V' : World} {t : TypeId} (h : Below ((V.alloc (obj0 t)).alloc (obj0 t)).drew.heap.size ((V.alloc (obj0 t)).alloc (obj0 t)).drew V') : bk0 V' (V.heap.size + 1) t := by
  have h1 := (bk.drew (bk.new (V.alloc (obj0 t)) t [.string ⟨#[]⟩, .int .i64 0, .int .i64 0, .int .i64 0, .int .i64 0, .slice none 0 0, .int .i64 0, .int .i64 0, .slice none 0 0, .slice none 0 0, .slice none 0 0])).below h (show (V.alloc (obj0 t)).heap.size < ((V.alloc (obj0 t)).alloc (obj0 t)).heap.size by simp)
  simpa using h1
set_option maxRecDepth 100000 in
theorem below_one {V V' : World} {o : Obj} (h : Below (V.alloc o).heap.size (V.alloc o) V') : Below V.heap.size V V' := below_step (below_alloc (Below.refl _ _) o) h
set_option maxRecDepth 100000 in
theorem below_two {V V' : World} {o o' : Obj} (h : Below ((V.alloc o).alloc o').heap.size ((V.alloc o).alloc o') V') : Below V.heap.size V V' := below_step (below_alloc (below_alloc (Below.refl _ _) o) o') h
abbrev set11 (V : World) (b : Nat) (a0 a1 a2 a3 a4 a5 a6 a7 a8 a9 a10 : Value) : World := (((((((((((V.setCell ⟨b, 0, none⟩ a0).setCell ⟨b, 1, none⟩ a1).setCell ⟨b, 2, none⟩ a2).setCell ⟨b, 3, none⟩ a3).setCell ⟨b, 4, none⟩ a4).setCell ⟨b, 5, none⟩ a5).setCell ⟨b, 6, none⟩ a6).setCell ⟨b, 7, none⟩ a7).setCell ⟨b, 8, none⟩ a8).setCell ⟨b, 9, none⟩ a9).setCell ⟨b, 10, none⟩ a10)
set_option maxRecDepth 100000 in
theorem bk0.set11 {V : World} {b : Nat} {t : TypeId} (h : bk0 V b t) (a0 a1 a2 a3 a4 a5 a6 a7 a8 a9 a10 : Value) : bk (set11 V b a0 a1 a2 a3 a4 a5 a6 a7 a8 a9 a10) b t [a0, a1, a2, a3, a4, a5, a6, a7, a8, a9, a10] := by
  have h : bk V b t _ := h
  exact (((((((((((h.set 0 a0).set 1 a1).set 2 a2).set 3 a3).set 4 a4).set 5 a5).set 6 a6).set 7 a7).set 8 a8).set 9 a9).set 10 a10)
set_option maxRecDepth 100000 in
theorem bk.far11 {V : World} {f b : Nat} {t : TypeId} {cs : List Value} (h : bk V f t cs) (hne : f ≠ b) (a0 a1 a2 a3 a4 a5 a6 a7 a8 a9 a10 : Value) : bk (set11 V b a0 a1 a2 a3 a4 a5 a6 a7 a8 a9 a10) f t cs := by
  exact (((((((((((h.far (p := ⟨b, 0, none⟩) hne a0).far (p := ⟨b, 1, none⟩) hne a1).far (p := ⟨b, 2, none⟩) hne a2).far (p := ⟨b, 3, none⟩) hne a3).far (p := ⟨b, 4, none⟩) hne a4).far (p := ⟨b, 5, none⟩) hne a5).far (p := ⟨b, 6, none⟩) hne a6).far (p := ⟨b, 7, none⟩) hne a7).far (p := ⟨b, 8, none⟩) hne a8).far (p := ⟨b, 9, none⟩) hne a9).far (p := ⟨b, 10, none⟩) hne a10)
set_option maxRecDepth 100000 in
theorem set11_size (V : World) (b : Nat) (a0 a1 a2 a3 a4 a5 a6 a7 a8 a9 a10 : Value) : (set11 V b a0 a1 a2 a3 a4 a5 a6 a7 a8 a9 a10).heap.size = V.heap.size := by simp [set11]
set_option maxRecDepth 100000 in
theorem turned11 {lo hi : Nat} {V : World} {b : Nat} (h1 : lo ≤ b) (h2 : b < hi) (a0 a1 a2 a3 a4 a5 a6 a7 a8 a9 a10 : Value) : Turned lo hi V (set11 V b a0 a1 a2 a3 a4 a5 a6 a7 a8 a9 a10) := (((((((((((Turned.refl lo hi V).set (b := b) 0 a0 h1 h2).set (b := b) 1 a1 h1 h2).set (b := b) 2 a2 h1 h2).set (b := b) 3 a3 h1 h2).set (b := b) 4 a4 h1 h2).set (b := b) 5 a5 h1 h2).set (b := b) 6 a6 h1 h2).set (b := b) 7 a7 h1 h2).set (b := b) 8 a8 h1 h2).set (b := b) 9 a9 h1 h2).set (b := b) 10 a10 h1 h2
set_option maxRecDepth 100000 in
theorem AcctI.set11 {lo hi : Nat} {V : World} {vh vc vs vl : Value} {a : AcctD} {b : Nat} (h : AcctI lo hi V vh vc vs vl a) (hb : b < lo ∨ hi ≤ b) (hh : hi ≤ V.heap.size) (a0 a1 a2 a3 a4 a5 a6 a7 a8 a9 a10 : Value) : AcctI lo hi (set11 V b a0 a1 a2 a3 a4 a5 a6 a7 a8 a9 a10) vh vc vs vl a := h.turned (turned11 (Nat.le_refl b) (Nat.lt_succ_self b) a0 a1 a2 a3 a4 a5 a6 a7 a8 a9 a10) (by omega) hh
/-- two accounts in blocks f, g of their own, what they hold apart from one another and from f, g -/
def twoIn (W0 : World) (sa sb : AcctD) (fv gv : Value) (wx : World) : Prop := ∃ (f g : Nat) (A1 A2 A3 A4 A5 A6 A7 A8 : Option Addr) (c1 c2 c3 c4 c5 c6 c7 c8 : Nat) (l1 h1 l2 h2 : Nat), fv = .pointer (some ⟨f, 0, none⟩) ∧ gv = .pointer (some ⟨g, 0, none⟩) ∧ bk wx f 29 [.string (aId sa), .int .i64 (aLim sa), .int .i64 (aPos sa), .int .i64 (aMost sa), .int .i64 (aSum sa), .slice A1 (aH sa).length c1, .int .i64 (aR sa).1, .int .i64 (aR sa).2.1, .slice A2 (aR sa).2.2.1.length c2, .slice A3 (aR sa).2.2.2.length c3, .slice A4 (aS sa).length c4] ∧ bk wx g 29 [.string (aId sb), .int .i64 (aLim sb), .int .i64 (aPos sb), .int .i64 (aMost sb), .int .i64 (aSum sb), .slice A5 (aH sb).length c5, .int .i64 (aR sb).1, .int .i64 (aR sb).2.1, .slice A6 (aR sb).2.2.1.length c6, .slice A7 (aR sb).2.2.2.length c7, .slice A8 (aS sb).length c8] ∧ AcctI l1 h1 wx (.slice A1 (aH sa).length c1) (.slice A2 (aR sa).2.2.1.length c2) (.slice A3 (aR sa).2.2.2.length c3) (.slice A4 (aS sa).length c4) sa ∧ AcctI l2 h2 wx (.slice A5 (aH sb).length c5) (.slice A6 (aR sb).2.2.1.length c6) (.slice A7 (aR sb).2.2.2.length c7) (.slice A8 (aS sb).length c8) sb ∧ (W0.heap.size ≤ l1 ∧ l1 ≤ h1 ∧ h1 ≤ l2 ∧ l2 ≤ h2 ∧ h2 ≤ wx.heap.size) ∧ (W0.heap.size ≤ f ∧ W0.heap.size ≤ g ∧ f ≠ g) ∧ (f < l1 ∨ h1 ≤ f) ∧ (f < l2 ∨ h2 ≤ f) ∧ (g < l1 ∨ h1 ≤ g) ∧ (g < l2 ∨ h2 ≤ g) ∧ Below W0.heap.size W0 wx
set_option maxRecDepth 100000 in
theorem twoIn.mk0 {W0 wB : World} {sa sb : AcctD} {f g : Nat} {A1 A2 A3 A4 A5 A6 A7 A8 : Option Addr} {c1 c2 c3 c4 c5 c6 c7 c8 : Nat} {l1 h1 l2 h2 : Nat} (hf : bk0 wB f 29) (hg : bk0 wB g 29) (hI1 : AcctI l1 h1 wB (.slice A1 (aH sa).length c1) (.slice A2 (aR sa).2.2.1.length c2) (.slice A3 (aR sa).2.2.2.length c3) (.slice A4 (aS sa).length c4) sa) (hI2 : AcctI l2 h2 wB (.slice A5 (aH sb).length c5) (.slice A6 (aR sb).2.2.1.length c6) (.slice A7 (aR sb).2.2.2.length c7) (.slice A8 (aS sb).length c8) sb) (hB : Below W0.heap.size W0 wB) (q : W0.heap.size ≤ l1 ∧ l1 ≤ h1 ∧ h1 ≤ l2 ∧ l2 ≤ h2 ∧ h2 ≤ wB.heap.size) (r : W0.heap.size ≤ f ∧ W0.heap.size ≤ g ∧ f ≠ g) (o : (f < l1 ∨ h1 ≤ f) ∧ (f < l2 ∨ h2 ≤ f) ∧ (g < l1 ∨ h1 ≤ g) ∧ (g < l2 ∨ h2 ≤ g)) : twoIn W0 sa sb (.pointer (some ⟨f, 0, none⟩)) (.pointer (some ⟨g, 0, none⟩)) (set11 (set11 wB f (.string (aId sa)) (.int .i64 (aLim sa)) (.int .i64 (aPos sa)) (.int .i64 (aMost sa)) (.int .i64 (aSum sa)) (.slice A1 (aH sa).length c1) (.int .i64 (aR sa).1) (.int .i64 (aR sa).2.1) (.slice A2 (aR sa).2.2.1.length c2) (.slice A3 (aR sa).2.2.2.length c3) (.slice A4 (aS sa).length c4)) g (.string (aId sb)) (.int .i64 (aLim sb)) (.int .i64 (aPos sb)) (.int .i64 (aMost sb)) (.int .i64 (aSum sb)) (.slice A5 (aH sb).length c5) (.int .i64 (aR sb).1) (.int .i64 (aR sb).2.1) (.slice A6 (aR sb).2.2.1.length c6) (.slice A7 (aR sb).2.2.2.length c7) (.slice A8 (aS sb).length c8)) := by
  obtain ⟨r1, r2, r3⟩ := r
  obtain ⟨o1, o2, o3, o4⟩ := o
  obtain ⟨q1, q2, q3, q4, q5⟩ := q
  have z1 := set11_size wB f (.string (aId sa)) (.int .i64 (aLim sa)) (.int .i64 (aPos sa)) (.int .i64 (aMost sa)) (.int .i64 (aSum sa)) (.slice A1 (aH sa).length c1) (.int .i64 (aR sa).1) (.int .i64 (aR sa).2.1) (.slice A2 (aR sa).2.2.1.length c2) (.slice A3 (aR sa).2.2.2.length c3) (.slice A4 (aS sa).length c4)
  refine ⟨f, g, _, _, _, _, _, _, _, _, _, _, _, _, _, _, _, _, l1, h1, l2, h2, rfl, rfl, (hf.set11 _ _ _ _ _ _ _ _ _ _ _).far11 r3 _ _ _ _ _ _ _ _ _ _ _, bk0.set11 (bk.far11 hg (fun e => r3 e.symm) _ _ _ _ _ _ _ _ _ _ _) _ _ _ _ _ _ _ _ _ _ _, (hI1.set11 o1 (by omega) _ _ _ _ _ _ _ _ _ _ _).set11 o3 (by rw [z1]; omega) _ _ _ _ _ _ _ _ _ _ _, (hI2.set11 o2 (by omega) _ _ _ _ _ _ _ _ _ _ _).set11 o4 (by rw [z1]; omega) _ _ _ _ _ _ _ _ _ _ _, ⟨q1, q2, q3, q4, by rw [set11_size, z1]; omega⟩, ⟨r1, r2, r3⟩, o1, o2, o3, o4, below_set11 (below_set11 hB r1 _ _ _ _ _ _ _ _ _ _ _) r2 _ _ _ _ _ _ _ _ _ _ _⟩
set_option maxRecDepth 100000 in
theorem twoIn.mk1a {W0 wB : World} {sa sb : AcctD} {f : Nat} {A1 A2 A3 A4 A5 A6 A7 A8 : Option Addr} {c1 c2 c3 c4 c5 c6 c7 c8 : Nat} {l1 h1 l2 h2 : Nat} (hf : bk0 wB f 29) (hI1 : AcctI l1 h1 wB (.slice A1 (aH sa).length c1) (.slice A2 (aR sa).2.2.1.length c2) (.slice A3 (aR sa).2.2.2.length c3) (.slice A4 (aS sa).length c4) sa) (hI2 : AcctI l2 h2 wB (.slice A5 (aH sb).length c5) (.slice A6 (aR sb).2.2.1.length c6) (.slice A7 (aR sb).2.2.2.length c7) (.slice A8 (aS sb).length c8) sb) (hB : Below W0.heap.size W0 wB) (q : W0.heap.size ≤ l1 ∧ l1 ≤ h1 ∧ h1 ≤ l2 ∧ l2 ≤ h2 ∧ h2 ≤ wB.heap.size) (r : W0.heap.size ≤ f) (o : (f < l1 ∨ h1 ≤ f) ∧ (f < l2 ∨ h2 ≤ f)) : twoIn W0 sa sb (.pointer (some ⟨f, 0, none⟩)) (.pointer (some ⟨wB.heap.size, 0, none⟩)) ((set11 wB f (.string (aId sa)) (.int .i64 (aLim sa)) (.int .i64 (aPos sa)) (.int .i64 (aMost sa)) (.int .i64 (aSum sa)) (.slice A1 (aH sa).length c1) (.int .i64 (aR sa).1) (.int .i64 (aR sa).2.1) (.slice A2 (aR sa).2.2.1.length c2) (.slice A3 (aR sa).2.2.2.length c3) (.slice A4 (aS sa).length c4)).alloc (.cells #[.string (aId sb), .int .i64 (aLim sb), .int .i64 (aPos sb), .int .i64 (aMost sb), .int .i64 (aSum sb), .slice A5 (aH sb).length c5, .int .i64 (aR sb).1, .int .i64 (aR sb).2.1, .slice A6 (aR sb).2.2.1.length c6, .slice A7 (aR sb).2.2.2.length c7, .slice A8 (aS sb).length c8] 29)) := by
  obtain ⟨o1, o2⟩ := o
  obtain ⟨q1, q2, q3, q4, q5⟩ := q
  have hlt := bk.lt hf
  have hw := hB.size
  have z1 := set11_size wB f (.string (aId sa)) (.int .i64 (aLim sa)) (.int .i64 (aPos sa)) (.int .i64 (aMost sa)) (.int .i64 (aSum sa)) (.slice A1 (aH sa).length c1) (.int .i64 (aR sa).1) (.int .i64 (aR sa).2.1) (.slice A2 (aR sa).2.2.1.length c2) (.slice A3 (aR sa).2.2.2.length c3) (.slice A4 (aS sa).length c4)
  have hb : Below wB.heap.size (set11 wB f (.string (aId sa)) (.int .i64 (aLim sa)) (.int .i64 (aPos sa)) (.int .i64 (aMost sa)) (.int .i64 (aSum sa)) (.slice A1 (aH sa).length c1) (.int .i64 (aR sa).1) (.int .i64 (aR sa).2.1) (.slice A2 (aR sa).2.2.1.length c2) (.slice A3 (aR sa).2.2.2.length c3) (.slice A4 (aS sa).length c4)) ((set11 wB f (.string (aId sa)) (.int .i64 (aLim sa)) (.int .i64 (aPos sa)) (.int .i64 (aMost sa)) (.int .i64 (aSum sa)) (.slice A1 (aH sa).length c1) (.int .i64 (aR sa).1) (.int .i64 (aR sa).2.1) (.slice A2 (aR sa).2.2.1.length c2) (.slice A3 (aR sa).2.2.2.length c3) (.slice A4 (aS sa).length c4)).alloc (.cells #[.string (aId sb), .int .i64 (aLim sb), .int .i64 (aPos sb), .int .i64 (aMost sb), .int .i64 (aSum sb), .slice A5 (aH sb).length c5, .int .i64 (aR sb).1, .int .i64 (aR sb).2.1, .slice A6 (aR sb).2.2.1.length c6, .slice A7 (aR sb).2.2.2.length c7, .slice A8 (aS sb).length c8] 29)) := ((Below.refl _ _).alloc (by rw [z1]; omega) _)
  have hg := bk.new (set11 wB f (.string (aId sa)) (.int .i64 (aLim sa)) (.int .i64 (aPos sa)) (.int .i64 (aMost sa)) (.int .i64 (aSum sa)) (.slice A1 (aH sa).length c1) (.int .i64 (aR sa).1) (.int .i64 (aR sa).2.1) (.slice A2 (aR sa).2.2.1.length c2) (.slice A3 (aR sa).2.2.2.length c3) (.slice A4 (aS sa).length c4)) 29 [.string (aId sb), .int .i64 (aLim sb), .int .i64 (aPos sb), .int .i64 (aMost sb), .int .i64 (aSum sb), .slice A5 (aH sb).length c5, .int .i64 (aR sb).1, .int .i64 (aR sb).2.1, .slice A6 (aR sb).2.2.1.length c6, .slice A7 (aR sb).2.2.2.length c7, .slice A8 (aS sb).length c8]
  rw [z1] at hg
  refine ⟨f, wB.heap.size, _, _, _, _, _, _, _, _, _, _, _, _, _, _, _, _, l1, h1, l2, h2, rfl, rfl, (hf.set11 _ _ _ _ _ _ _ _ _ _ _).alloc _, hg, (hI1.set11 o1 (by omega) _ _ _ _ _ _ _ _ _ _ _).below hb (by omega), (hI2.set11 o2 (by omega) _ _ _ _ _ _ _ _ _ _ _).below hb (by omega), ⟨q1, q2, q3, q4, by simp; omega⟩, ⟨r, by omega, by omega⟩, o1, o2, .inr (by omega), .inr (by omega), below_alloc (below_set11 hB r _ _ _ _ _ _ _ _ _ _ _) _⟩
set_option maxRecDepth 100000 in
theorem twoIn.mk1b {W0 wB : World} {sa sb : AcctD} {g : Nat} {A1 A2 A3 A4 A5 A6 A7 A8 : Option Addr} {c1 c2 c3 c4 c5 c6 c7 c8 : Nat} {l1 h1 l2 h2 : Nat} (hf : bk0 wB g 29) (hI1 : AcctI l1 h1 wB (.slice A1 (aH sa).length c1) (.slice A2 (aR sa).2.2.1.length c2) (.slice A3 (aR sa).2.2.2.length c3) (.slice A4 (aS sa).length c4) sa) (hI2 : AcctI l2 h2 wB (.slice A5 (aH sb).length c5) (.slice A6 (aR sb).2.2.1.length c6) (.slice A7 (aR sb).2.2.2.length c7) (.slice A8 (aS sb).length c8) sb) (hB : Below W0.heap.size W0 wB) (q : W0.heap.size ≤ l1 ∧ l1 ≤ h1 ∧ h1 ≤ l2 ∧ l2 ≤ h2 ∧ h2 ≤ wB.heap.size) (r : W0.heap.size ≤ g) (o : (g < l1 ∨ h1 ≤ g) ∧ (g < l2 ∨ h2 ≤ g)) : twoIn W0 sa sb (.pointer (some ⟨wB.heap.size, 0, none⟩)) (.pointer (some ⟨g, 0, none⟩)) ((set11 wB g (.string (aId sb)) (.int .i64 (aLim sb)) (.int .i64 (aPos sb)) (.int .i64 (aMost sb)) (.int .i64 (aSum sb)) (.slice A5 (aH sb).length c5) (.int .i64 (aR sb).1) (.int .i64 (aR sb).2.1) (.slice A6 (aR sb).2.2.1.length c6) (.slice A7 (aR sb).2.2.2.length c7) (.slice A8 (aS sb).length c8)).alloc (.cells #[.string (aId sa), .int .i64 (aLim sa), .int .i64 (aPos sa), .int .i64 (aMost sa), .int .i64 (aSum sa), .slice A1 (aH sa).length c1, .int .i64 (aR sa).1, .int .i64 (aR sa).2.1, .slice A2 (aR sa).2.2.1.length c2, .slice A3 (aR sa).2.2.2.length c3, .slice A4 (aS sa).length c4] 29)) := by
  obtain ⟨o1, o2⟩ := o
  obtain ⟨q1, q2, q3, q4, q5⟩ := q
  have hlt := bk.lt hf
  have hw := hB.size
  have z1 := set11_size wB g (.string (aId sb)) (.int .i64 (aLim sb)) (.int .i64 (aPos sb)) (.int .i64 (aMost sb)) (.int .i64 (aSum sb)) (.slice A5 (aH sb).length c5) (.int .i64 (aR sb).1) (.int .i64 (aR sb).2.1) (.slice A6 (aR sb).2.2.1.length c6) (.slice A7 (aR sb).2.2.2.length c7) (.slice A8 (aS sb).length c8)
  have hb : Below wB.heap.size (set11 wB g (.string (aId sb)) (.int .i64 (aLim sb)) (.int .i64 (aPos sb)) (.int .i64 (aMost sb)) (.int .i64 (aSum sb)) (.slice A5 (aH sb).length c5) (.int .i64 (aR sb).1) (.int .i64 (aR sb).2.1) (.slice A6 (aR sb).2.2.1.length c6) (.slice A7 (aR sb).2.2.2.length c7) (.slice A8 (aS sb).length c8)) ((set11 wB g (.string (aId sb)) (.int .i64 (aLim sb)) (.int .i64 (aPos sb)) (.int .i64 (aMost sb)) (.int .i64 (aSum sb)) (.slice A5 (aH sb).length c5) (.int .i64 (aR sb).1) (.int .i64 (aR sb).2.1) (.slice A6 (aR sb).2.2.1.length c6) (.slice A7 (aR sb).2.2.2.length c7) (.slice A8 (aS sb).length c8)).alloc (.cells #[.string (aId sa), .int .i64 (aLim sa), .int .i64 (aPos sa), .int .i64 (aMost sa), .int .i64 (aSum sa), .slice A1 (aH sa).length c1, .int .i64 (aR sa).1, .int .i64 (aR sa).2.1, .slice A2 (aR sa).2.2.1.length c2, .slice A3 (aR sa).2.2.2.length c3, .slice A4 (aS sa).length c4] 29)) := ((Below.refl _ _).alloc (by rw [z1]; omega) _)
  have hg := bk.new (set11 wB g (.string (aId sb)) (.int .i64 (aLim sb)) (.int .i64 (aPos sb)) (.int .i64 (aMost sb)) (.int .i64 (aSum sb)) (.slice A5 (aH sb).length c5) (.int .i64 (aR sb).1) (.int .i64 (aR sb).2.1) (.slice A6 (aR sb).2.2.1.length c6) (.slice A7 (aR sb).2.2.2.length c7) (.slice A8 (aS sb).length c8)) 29 [.string (aId sa), .int .i64 (aLim sa), .int .i64 (aPos sa), .int .i64 (aMost sa), .int .i64 (aSum sa), .slice A1 (aH sa).length c1, .int .i64 (aR sa).1, .int .i64 (aR sa).2.1, .slice A2 (aR sa).2.2.1.length c2, .slice A3 (aR sa).2.2.2.length c3, .slice A4 (aS sa).length c4]
  rw [z1] at hg
  refine ⟨wB.heap.size, g, _, _, _, _, _, _, _, _, _, _, _, _, _, _, _, _, l1, h1, l2, h2, rfl, rfl, hg, (hf.set11 _ _ _ _ _ _ _ _ _ _ _).alloc _, (hI1.set11 o1 (by omega) _ _ _ _ _ _ _ _ _ _ _).below hb (by omega), (hI2.set11 o2 (by omega) _ _ _ _ _ _ _ _ _ _ _).below hb (by omega), ⟨q1, q2, q3, q4, by simp; omega⟩, ⟨by omega, r, by omega⟩, .inr (by omega), .inr (by omega), o1, o2, below_alloc (below_set11 hB r _ _ _ _ _ _ _ _ _ _ _) _⟩
set_option maxRecDepth 100000 in
theorem twoIn.mk2a {W0 wB : World} {sa sb : AcctD} {A1 A2 A3 A4 A5 A6 A7 A8 : Option Addr} {c1 c2 c3 c4 c5 c6 c7 c8 : Nat} {l1 h1 l2 h2 : Nat} (hI1 : AcctI l1 h1 wB (.slice A1 (aH sa).length c1) (.slice A2 (aR sa).2.2.1.length c2) (.slice A3 (aR sa).2.2.2.length c3) (.slice A4 (aS sa).length c4) sa) (hI2 : AcctI l2 h2 wB (.slice A5 (aH sb).length c5) (.slice A6 (aR sb).2.2.1.length c6) (.slice A7 (aR sb).2.2.2.length c7) (.slice A8 (aS sb).length c8) sb) (hB : Below W0.heap.size W0 wB) (q : W0.heap.size ≤ l1 ∧ l1 ≤ h1 ∧ h1 ≤ l2 ∧ l2 ≤ h2 ∧ h2 ≤ wB.heap.size) : twoIn W0 sa sb (.pointer (some ⟨wB.heap.size, 0, none⟩)) (.pointer (some ⟨wB.heap.size + 1, 0, none⟩)) ((wB.alloc (.cells #[.string (aId sa), .int .i64 (aLim sa), .int .i64 (aPos sa), .int .i64 (aMost sa), .int .i64 (aSum sa), .slice A1 (aH sa).length c1, .int .i64 (aR sa).1, .int .i64 (aR sa).2.1, .slice A2 (aR sa).2.2.1.length c2, .slice A3 (aR sa).2.2.2.length c3, .slice A4 (aS sa).length c4] 29)).alloc (.cells #[.string (aId sb), .int .i64 (aLim sb), .int .i64 (aPos sb), .int .i64 (aMost sb), .int .i64 (aSum sb), .slice A5 (aH sb).length c5, .int .i64 (aR sb).1, .int .i64 (aR sb).2.1, .slice A6 (aR sb).2.2.1.length c6, .slice A7 (aR sb).2.2.2.length c7, .slice A8 (aS sb).length c8] 29)) := by
  obtain ⟨q1, q2, q3, q4, q5⟩ := q
  have hw := hB.size
  have hb : Below wB.heap.size wB ((wB.alloc (.cells #[.string (aId sa), .int .i64 (aLim sa), .int .i64 (aPos sa), .int .i64 (aMost sa), .int .i64 (aSum sa), .slice A1 (aH sa).length c1, .int .i64 (aR sa).1, .int .i64 (aR sa).2.1, .slice A2 (aR sa).2.2.1.length c2, .slice A3 (aR sa).2.2.2.length c3, .slice A4 (aS sa).length c4] 29)).alloc (.cells #[.string (aId sb), .int .i64 (aLim sb), .int .i64 (aPos sb), .int .i64 (aMost sb), .int .i64 (aSum sb), .slice A5 (aH sb).length c5, .int .i64 (aR sb).1, .int .i64 (aR sb).2.1, .slice A6 (aR sb).2.2.1.length c6, .slice A7 (aR sb).2.2.2.length c7, .slice A8 (aS sb).length c8] 29)) := below_alloc (below_alloc (Below.refl _ _) _) _
  have k1 : bk ((wB.alloc (.cells #[.string (aId sa), .int .i64 (aLim sa), .int .i64 (aPos sa), .int .i64 (aMost sa), .int .i64 (aSum sa), .slice A1 (aH sa).length c1, .int .i64 (aR sa).1, .int .i64 (aR sa).2.1, .slice A2 (aR sa).2.2.1.length c2, .slice A3 (aR sa).2.2.2.length c3, .slice A4 (aS sa).length c4] 29)).alloc (.cells #[.string (aId sb), .int .i64 (aLim sb), .int .i64 (aPos sb), .int .i64 (aMost sb), .int .i64 (aSum sb), .slice A5 (aH sb).length c5, .int .i64 (aR sb).1, .int .i64 (aR sb).2.1, .slice A6 (aR sb).2.2.1.length c6, .slice A7 (aR sb).2.2.2.length c7, .slice A8 (aS sb).length c8] 29)) wB.heap.size 29 [.string (aId sa), .int .i64 (aLim sa), .int .i64 (aPos sa), .int .i64 (aMost sa), .int .i64 (aSum sa), .slice A1 (aH sa).length c1, .int .i64 (aR sa).1, .int .i64 (aR sa).2.1, .slice A2 (aR sa).2.2.1.length c2, .slice A3 (aR sa).2.2.2.length c3, .slice A4 (aS sa).length c4] := (bk.new wB 29 [.string (aId sa), .int .i64 (aLim sa), .int .i64 (aPos sa), .int .i64 (aMost sa), .int .i64 (aSum sa), .slice A1 (aH sa).length c1, .int .i64 (aR sa).1, .int .i64 (aR sa).2.1, .slice A2 (aR sa).2.2.1.length c2, .slice A3 (aR sa).2.2.2.length c3, .slice A4 (aS sa).length c4]).alloc _
  have k2 : bk ((wB.alloc (.cells #[.string (aId sa), .int .i64 (aLim sa), .int .i64 (aPos sa), .int .i64 (aMost sa), .int .i64 (aSum sa), .slice A1 (aH sa).length c1, .int .i64 (aR sa).1, .int .i64 (aR sa).2.1, .slice A2 (aR sa).2.2.1.length c2, .slice A3 (aR sa).2.2.2.length c3, .slice A4 (aS sa).length c4] 29)).alloc (.cells #[.string (aId sb), .int .i64 (aLim sb), .int .i64 (aPos sb), .int .i64 (aMost sb), .int .i64 (aSum sb), .slice A5 (aH sb).length c5, .int .i64 (aR sb).1, .int .i64 (aR sb).2.1, .slice A6 (aR sb).2.2.1.length c6, .slice A7 (aR sb).2.2.2.length c7, .slice A8 (aS sb).length c8] 29)) (wB.heap.size + 1) 29 [.string (aId sb), .int .i64 (aLim sb), .int .i64 (aPos sb), .int .i64 (aMost sb), .int .i64 (aSum sb), .slice A5 (aH sb).length c5, .int .i64 (aR sb).1, .int .i64 (aR sb).2.1, .slice A6 (aR sb).2.2.1.length c6, .slice A7 (aR sb).2.2.2.length c7, .slice A8 (aS sb).length c8] := by simpa using bk.new (wB.alloc (.cells #[.string (aId sa), .int .i64 (aLim sa), .int .i64 (aPos sa), .int .i64 (aMost sa), .int .i64 (aSum sa), .slice A1 (aH sa).length c1, .int .i64 (aR sa).1, .int .i64 (aR sa).2.1, .slice A2 (aR sa).2.2.1.length c2, .slice A3 (aR sa).2.2.2.length c3, .slice A4 (aS sa).length c4] 29)) 29 [.string (aId sb), .int .i64 (aLim sb), .int .i64 (aPos sb), .int .i64 (aMost sb), .int .i64 (aSum sb), .slice A5 (aH sb).length c5, .int .i64 (aR sb).1, .int .i64 (aR sb).2.1, .slice A6 (aR sb).2.2.1.length c6, .slice A7 (aR sb).2.2.2.length c7, .slice A8 (aS sb).length c8]
  refine ⟨wB.heap.size, wB.heap.size + 1, _, _, _, _, _, _, _, _, _, _, _, _, _, _, _, _, l1, h1, l2, h2, rfl, rfl, k1, k2, hI1.below hb (by omega), hI2.below hb (by omega), ⟨q1, q2, q3, q4, by simp; omega⟩, ⟨by omega, by omega, by omega⟩, .inr (by omega), .inr (by omega), .inr (by omega), .inr (by omega), below_alloc (below_alloc hB _) _⟩
set_option maxRecDepth 100000 in
theorem twoIn.mk2b {W0 wB : World} {sa sb : AcctD} {A1 A2 A3 A4 A5 A6 A7 A8 : Option Addr} {c1 c2 c3 c4 c5 c6 c7 c8 : Nat} {l1 h1 l2 h2 : Nat} (hI1 : AcctI l1 h1 wB (.slice A1 (aH sa).length c1) (.slice A2 (aR sa).2.2.1.length c2) (.slice A3 (aR sa).2.2.2.length c3) (.slice A4 (aS sa).length c4) sa) (hI2 : AcctI l2 h2 wB (.slice A5 (aH sb).length c5) (.slice A6 (aR sb).2.2.1.length c6) (.slice A7 (aR sb).2.2.2.length c7) (.slice A8 (aS sb).length c8) sb) (hB : Below W0.heap.size W0 wB) (q : W0.heap.size ≤ l1 ∧ l1 ≤ h1 ∧ h1 ≤ l2 ∧ l2 ≤ h2 ∧ h2 ≤ wB.heap.size) : twoIn W0 sa sb (.pointer (some ⟨wB.heap.size + 1, 0, none⟩)) (.pointer (some ⟨wB.heap.size, 0, none⟩)) ((wB.alloc (.cells #[.string (aId sb), .int .i64 (aLim sb), .int .i64 (aPos sb), .int .i64 (aMost sb), .int .i64 (aSum sb), .slice A5 (aH sb).length c5, .int .i64 (aR sb).1, .int .i64 (aR sb).2.1, .slice A6 (aR sb).2.2.1.length c6, .slice A7 (aR sb).2.2.2.length c7, .slice A8 (aS sb).length c8] 29)).alloc (.cells #[.string (aId sa), .int .i64 (aLim sa), .int .i64 (aPos sa), .int .i64 (aMost sa), .int .i64 (aSum sa), .slice A1 (aH sa).length c1, .int .i64 (aR sa).1, .int .i64 (aR sa).2.1, .slice A2 (aR sa).2.2.1.length c2, .slice A3 (aR sa).2.2.2.length c3, .slice A4 (aS sa).length c4] 29)) := by
  obtain ⟨q1, q2, q3, q4, q5⟩ := q
  have hw := hB.size
  have hb : Below wB.heap.size wB ((wB.alloc (.cells #[.string (aId sb), .int .i64 (aLim sb), .int .i64 (aPos sb), .int .i64 (aMost sb), .int .i64 (aSum sb), .slice A5 (aH sb).length c5, .int .i64 (aR sb).1, .int .i64 (aR sb).2.1, .slice A6 (aR sb).2.2.1.length c6, .slice A7 (aR sb).2.2.2.length c7, .slice A8 (aS sb).length c8] 29)).alloc (.cells #[.string (aId sa), .int .i64 (aLim sa), .int .i64 (aPos sa), .int .i64 (aMost sa), .int .i64 (aSum sa), .slice A1 (aH sa).length c1, .int .i64 (aR sa).1, .int .i64 (aR sa).2.1, .slice A2 (aR sa).2.2.1.length c2, .slice A3 (aR sa).2.2.2.length c3, .slice A4 (aS sa).length c4] 29)) := below_alloc (below_alloc (Below.refl _ _) _) _
  have k1 : bk ((wB.alloc (.cells #[.string (aId sb), .int .i64 (aLim sb), .int .i64 (aPos sb), .int .i64 (aMost sb), .int .i64 (aSum sb), .slice A5 (aH sb).length c5, .int .i64 (aR sb).1, .int .i64 (aR sb).2.1, .slice A6 (aR sb).2.2.1.length c6, .slice A7 (aR sb).2.2.2.length c7, .slice A8 (aS sb).length c8] 29)).alloc (.cells #[.string (aId sa), .int .i64 (aLim sa), .int .i64 (aPos sa), .int .i64 (aMost sa), .int .i64 (aSum sa), .slice A1 (aH sa).length c1, .int .i64 (aR sa).1, .int .i64 (aR sa).2.1, .slice A2 (aR sa).2.2.1.length c2, .slice A3 (aR sa).2.2.2.length c3, .slice A4 (aS sa).length c4] 29)) wB.heap.size 29 [.string (aId sb), .int .i64 (aLim sb), .int .i64 (aPos sb), .int .i64 (aMost sb), .int .i64 (aSum sb), .slice A5 (aH sb).length c5, .int .i64 (aR sb).1, .int .i64 (aR sb).2.1, .slice A6 (aR sb).2.2.1.length c6, .slice A7 (aR sb).2.2.2.length c7, .slice A8 (aS sb).length c8] := (bk.new wB 29 [.string (aId sb), .int .i64 (aLim sb), .int .i64 (aPos sb), .int .i64 (aMost sb), .int .i64 (aSum sb), .slice A5 (aH sb).length c5, .int .i64 (aR sb).1, .int .i64 (aR sb).2.1, .slice A6 (aR sb).2.2.1.length c6, .slice A7 (aR sb).2.2.2.length c7, .slice A8 (aS sb).length c8]).alloc _
  have k2 : bk ((wB.alloc (.cells #[.string (aId sb), .int .i64 (aLim sb), .int .i64 (aPos sb), .int .i64 (aMost sb), .int .i64 (aSum sb), .slice A5 (aH sb).length c5, .int .i64 (aR sb).1, .int .i64 (aR sb).2.1, .slice A6 (aR sb).2.2.1.length c6, .slice A7 (aR sb).2.2.2.length c7, .slice A8 (aS sb).length c8] 29)).alloc (.cells #[.string (aId sa), .int .i64 (aLim sa), .int .i64 (aPos sa), .int .i64 (aMost sa), .int .i64 (aSum sa), .slice A1 (aH sa).length c1, .int .i64 (aR sa).1, .int .i64 (aR sa).2.1, .slice A2 (aR sa).2.2.1.length c2, .slice A3 (aR sa).2.2.2.length c3, .slice A4 (aS sa).length c4] 29)) (wB.heap.size + 1) 29 [.string (aId sa), .int .i64 (aLim sa), .int .i64 (aPos sa), .int .i64 (aMost sa), .int .i64 (aSum sa), .slice A1 (aH sa).length c1, .int .i64 (aR sa).1, .int .i64 (aR sa).2.1, .slice A2 (aR sa).2.2.1.length c2, .slice A3 (aR sa).2.2.2.length c3, .slice A4 (aS sa).length c4] := by simpa using bk.new (wB.alloc (.cells #[.string (aId sb), .int .i64 (aLim sb), .int .i64 (aPos sb), .int .i64 (aMost sb), .int .i64 (aSum sb), .slice A5 (aH sb).length c5, .int .i64 (aR sb).1, .int .i64 (aR sb).2.1, .slice A6 (aR sb).2.2.1.length c6, .slice A7 (aR sb).2.2.2.length c7, .slice A8 (aS sb).length c8] 29)) 29 [.string (aId sa), .int .i64 (aLim sa), .int .i64 (aPos sa), .int .i64 (aMost sa), .int .i64 (aSum sa), .slice A1 (aH sa).length c1, .int .i64 (aR sa).1, .int .i64 (aR sa).2.1, .slice A2 (aR sa).2.2.1.length c2, .slice A3 (aR sa).2.2.2.length c3, .slice A4 (aS sa).length c4]
  refine ⟨wB.heap.size + 1, wB.heap.size, _, _, _, _, _, _, _, _, _, _, _, _, _, _, _, _, l1, h1, l2, h2, rfl, rfl, k2, k1, hI1.below hb (by omega), hI2.below hb (by omega), ⟨q1, q2, q3, q4, by simp; omega⟩, ⟨by omega, by omega, by omega⟩, .inr (by omega), .inr (by omega), .inr (by omega), .inr (by omega), below_alloc (below_alloc hB _) _⟩
set_option maxRecDepth 100000 in
theorem size_one (V : World) (o : Obj) : (V.alloc o).heap.size = V.heap.size + 1 := by simp
set_option maxRecDepth 100000 in
theorem size_two (V : World) (o o' : Obj) : ((V.alloc o).alloc o').heap.size = V.heap.size + 1 + 1 := by simp
set_option maxRecDepth 100000 in
theorem size_oneD (V : World) (o : Obj) : (V.alloc o).drew.heap.size = V.heap.size + 1 := size_one V o
set_option maxRecDepth 100000 in
theorem size_twoD (V : World) (o o' : Obj) : ((V.alloc o).alloc o').drew.heap.size = V.heap.size + 1 + 1 := size_two V o o'
end Go.Proofs.YtnmijppppcgobaaGreatDoor
set_option linter.unusedVariables false
namespace Go.Proofs.YtnmijppppcgobaaGreatDoor
open Go.ChangeShapes Go.WideShapes Go.ChangeAt Go.RowKit

set_option maxRecDepth 100000 in
theorem six_nil (lo hi : Nat) (w : World) (h : lo ≤ hi) : Six lo hi w (.slice none 0 0) (.slice none 0 0) (.slice none 0 0) (.slice none 0 0) acctNil (.slice none 0 0) (.slice none 0 0) (.slice none 0 0) (.slice none 0 0) acctNil lo lo lo lo lo lo lo lo lo lo lo lo :=
  ⟨holds_none _ _ _, ring_mine_of (nums_none _ _ _ _) (nums_none _ _ _ _) (by intro b h; cases h), slots_none _ _ _, holds_none _ _ _, ring_mine_of (nums_none _ _ _ _) (nums_none _ _ _ _) (by intro b h; cases h), slots_none _ _ _,
   ⟨Nat.le_refl _, h⟩, ⟨Nat.le_refl _, h⟩, ⟨Nat.le_refl _, h⟩, ⟨Nat.le_refl _, h⟩, ⟨Nat.le_refl _, h⟩, ⟨Nat.le_refl _, h⟩,
   .inl (Nat.le_refl _), .inl (Nat.le_refl _), .inl (Nat.le_refl _), .inl (Nat.le_refl _), .inl (Nat.le_refl _), .inl (Nat.le_refl _), .inl (Nat.le_refl _), .inl (Nat.le_refl _), .inl (Nat.le_refl _), .inl (Nat.le_refl _), .inl (Nat.le_refl _), .inl (Nat.le_refl _), .inl (Nat.le_refl _), .inl (Nat.le_refl _), .inl (Nat.le_refl _)⟩
set_option maxRecDepth 100000 in
theorem six_of {lo hi l1 h1 l2 h2 n1 n2 n3 n4 : Nat} {w : World} {vh vc vs vl : Value} {sa : AcctD} {vh2 vc2 vs2 vl2 : Value} {sb : AcctD} {uh uh2 : Value} {la lb : List HoldD} (hI1 : AcctI l1 h1 w vh vc vs vl sa) (hI2 : AcctI l2 h2 w vh2 vc2 vs2 vl2 sb) (m1 : HoldsR.mine n1 n2 w [uh] la) (m4 : HoldsR.mine n3 n4 w [uh2] lb) (q : lo ≤ l1 ∧ l1 ≤ h1 ∧ h1 ≤ l2 ∧ l2 ≤ h2 ∧ h2 ≤ n1 ∧ n1 ≤ n2 ∧ n2 ≤ n3 ∧ n3 ≤ n4 ∧ n4 ≤ hi) :
    ∃ i1 j1 i2 j2 i3 j3 i4 j4 i5 j5 i6 j6, Six lo hi w uh vc vs vl (setH sa la) uh2 vc2 vs2 vl2 (setH sb lb) i1 j1 i2 j2 i3 j3 i4 j4 i5 j5 i6 j6 := by
  obtain ⟨a1, b1, a2, b2, a3, b3, p1, p2, p3, hq, d1, d2, d3⟩ := hI1
  obtain ⟨e1, f1, e2, f2, e3, f3, r1, r2, r3, hq', g1, g2, g3⟩ := hI2
  refine ⟨n1, n2, a2, b2, a3, b3, n3, n4, e2, f2, e3, f3, ?_⟩
  constructor
  · exact m1
  · exact p2
  · exact p3
  · exact m4
  · exact r2
  · exact r3
  all_goals first | omega | (unfold ap; omega)
set_option maxRecDepth 100000 in
set_option maxHeartbeats 1600000 in
theorem eq_says (ia ib : ByteArray) (xs ys : List Value) (w : World) (B1 B2 : Nat) (b1 : bk w B1 29 (.string ia :: xs)) (b2 : bk w B2 29 (.string ib :: ys)) : chkB w 85 #[.pointer (some ⟨B1, 0, none⟩), .pointer (some ⟨B2, 0, none⟩)] (decide (ia = ib)) := by
  refine ⟨Go.Proofs.enters_of Tryz.func85 (by kernel_rfl) rfl, fun W hW => ?_⟩
  have c1 : W.cell? ⟨B1, 0, none⟩ = some (.string ia) := (b1.below hW b1.lt).cell 0
  have c2 : W.cell? ⟨B2, 0, none⟩ = some (.string ib) := (b2.below hW b2.lt).cell 0
  have HE : Hid ((ia.toList == ib.toList) = decide (ia = ib)) := Lib.hid (by
    by_cases h : ia = ib
    · rw [h]; simp
    · rw [decide_eq_false h]; simpa using fun e => h (str_eq_list.1 e))
  clear b1 b2 hW
  go_enter Tryz.func85, Tryz.ntmps85
  go_wp2
  go_ret
  exact ⟨ret_bool HE.out, Below.refl _ _⟩
end Go.Proofs.YtnmijppppcgobaaGreatDoor
set_option linter.unusedVariables false
namespace Go.Proofs.YtnmijppppcgobaaGreatDoor
open Go.ChangeShapes Go.WideShapes Go.ChangeAt Go.RowKit

set_option maxRecDepth 100000 in
set_option maxHeartbeats 16000000 in
theorem implMove_any (hi : Nat) (vh vc vs vl : Value) (a : AcctD) (vh9 vc9 vs9 vl9 : Value) (b : AcctD) (s : ByteArray) (now : Int) (w : World) (hg : Handle w) (hz : acctSmall 1048576 a) (hbig : acctBig a) (h : AcctR.rd hi w (aCells a vh vc vs vl) a) (hz9 : acctSmall 1048576 b) (hbig9 : acctBig b) (h9 : AcctR.rd hi w (aCells b vh9 vc9 vs9 vl9) b) (hh : hi ≤ w.heap.size) (hsz : s.size ≤ maxLen) :
    Calls Tryz.prog 35 #[.agg #[.string (aId a), .int .i64 (aLim a), .int .i64 (aPos a), .int .i64 (aMost a), .int .i64 (aSum a), vh, .int .i64 (aR a).1, .int .i64 (aR a).2.1, vc, vs, vl], .agg #[.string (aId b), .int .i64 (aLim b), .int .i64 (aPos b), .int .i64 (aMost b), .int .i64 (aSum b), vh9, .int .i64 (aR b).1, .int .i64 (aR b).2.1, vc9, vs9, vl9], .string s, .int .i64 now] w (acctRes2I (moveL a b s now).1 (moveL a b s now).2.1 (moveL a b s now).2.2 w) := by
  have HST : Hid (∀ W, Below w.heap.size w W → Calls Tryz.prog 56 #[.agg #[.string (aId a), .int .i64 (aLim a), .int .i64 (aPos a), .int .i64 (aMost a), .int .i64 (aSum a), vh, .int .i64 (aR a).1, .int .i64 (aR a).2.1, vc, vs, vl], .int .i64 now] W (chkRes (kState a now) W)) := Lib.hid (fun W hW => implStateCheck_any hi vh vc vs vl a now W (hg.below hW (Nat.le_refl _)) hz hbig (Rep.below (R := AcctR) h hW hh) (Nat.le_trans hh hW.size))
  have HSW := Lib.hid (fun W (hW : Below w.heap.size w W) => implAcctSwept_any hi vh vc vs vl a now W (hg.below hW (Nat.le_refl _)) hz hbig (Rep.below (R := AcctR) h hW hh) (Nat.le_trans hh hW.size))
  have HST9 : Hid (∀ W, Below w.heap.size w W → Calls Tryz.prog 56 #[.agg #[.string (aId b), .int .i64 (aLim b), .int .i64 (aPos b), .int .i64 (aMost b), .int .i64 (aSum b), vh9, .int .i64 (aR b).1, .int .i64 (aR b).2.1, vc9, vs9, vl9], .int .i64 now] W (chkRes (kState b now) W)) := Lib.hid (fun W hW => implStateCheck_any hi vh9 vc9 vs9 vl9 b now W (hg.below hW (Nat.le_refl _)) hz9 hbig9 (Rep.below (R := AcctR) h9 hW hh) (Nat.le_trans hh hW.size))
  have HSW9 := Lib.hid (fun W (hW : Below w.heap.size w W) => implAcctSwept_any hi vh9 vc9 vs9 vl9 b now W (hg.below hW (Nat.le_refl _)) hz9 hbig9 (Rep.below (R := AcctR) h9 hW hh) (Nat.le_trans hh hW.size))
  have HCO := Lib.hid (move_codes a b s now _ rfl)
  have HSZ := Lib.hid (swept_small hz now)
  have HSB := Lib.hid (swept_big hbig now)
  have HSZ9 := Lib.hid (swept_small hz9 now)
  have HSB9 := Lib.hid (swept_big hbig9 now)
  obtain ⟨xh, xc, xs, xl, hcs, r1, r2, r3, r4⟩ := acct_rd h
  simp only [aCells, List.cons.injEq, and_true, true_and] at hcs
  obtain ⟨rfl, rfl, rfl, rfl⟩ := hcs
  obtain ⟨AH, cH, rfl, -⟩ := Rep.slice_form r1
  obtain ⟨AL, cL, rfl, -⟩ := Rep.slice_form r4
  obtain ⟨AC, cC, rfl, -⟩ := r2.form
  obtain ⟨AS, cS, rfl, -⟩ := r3.form
  clear h r1 r2 r3 r4 hz hbig
  obtain ⟨xh, xc, xs, xl, hcs, r1, r2, r3, r4⟩ := acct_rd h9
  simp only [aCells, List.cons.injEq, and_true, true_and] at hcs
  obtain ⟨rfl, rfl, rfl, rfl⟩ := hcs
  obtain ⟨AH1, cH1, rfl, -⟩ := Rep.slice_form r1
  obtain ⟨AL1, cL1, rfl, -⟩ := Rep.slice_form r4
  obtain ⟨AC1, cC1, rfl, -⟩ := r2.form
  obtain ⟨AS1, cS1, rfl, -⟩ := r3.form
  clear h9 r1 r2 r3 r4 hz9 hbig9
  generalize kState a now = k0 at HST HCO
  generalize kState b now = k1 at HST9 HCO
  generalize acctSwept a now = sa at HSW HCO HSZ HSB
  generalize acctSwept b now = sb at HSW9 HCO HSZ9 HSB9
  obtain ⟨⟨ra, rb, rc⟩, hres⟩ : ∃ r, r = moveL a b s now := ⟨_, rfl⟩
  rw [← hres] at HCO ⊢
  clear hres
  dsimp only at HCO ⊢
  obtain ⟨id, lim, pos, most, sum, hs, ⟨sp, hd, cs, ss⟩, sl⟩ := a
  obtain ⟨id1, lim1, pos1, most1, sum1, hs1, ⟨sp1, hd1, cs1, ss1⟩, sl1⟩ := b
  obtain ⟨id2, lim2, pos2, most2, sum2, hs2, ⟨sp2, hd2, cs2, ss2⟩, sl2⟩ := sa
  obtain ⟨id3, lim3, pos3, most3, sum3, hs3, ⟨sp3, hd3, cs3, ss3⟩, sl3⟩ := sb
  simp only [aId, aLim, aPos, aMost, aSum, aH, aS] at HST HST9 HSW HSW9 HCO ⊢
  have HG := Lib.hid hg
  clear hg
  go_enter Tryz.func35, Tryz.ntmps35
  go_upto_region 1 with fail
  obtain ⟨w0, hW⟩ : ∃ w0, w0 = ((((w.alloc (.cells #[.string id, .int .i64 lim, .int .i64 pos, .int .i64 most, .int .i64 sum, .slice AH hs.length cH, .int .i64 sp, .int .i64 hd, .slice AC cs.length cC, .slice AS ss.length cS, .slice AL sl.length cL] 29)).alloc (.cells #[.string id1, .int .i64 lim1, .int .i64 pos1, .int .i64 most1, .int .i64 sum1, .slice AH1 hs1.length cH1, .int .i64 sp1, .int .i64 hd1, .slice AC1 cs1.length cC1, .slice AS1 ss1.length cS1, .slice AL1 sl1.length cL1] 29)).alloc (.cells #[.string ⟨#[]⟩, .int .i64 0, .int .i64 0, .int .i64 0, .int .i64 0, .slice none 0 0, .int .i64 0, .int .i64 0, .slice none 0 0, .slice none 0 0, .slice none 0 0] 29)).alloc (.cells #[.string ⟨#[]⟩, .int .i64 0, .int .i64 0, .int .i64 0, .int .i64 0, .slice none 0 0, .int .i64 0, .int .i64 0, .slice none 0 0, .slice none 0 0, .slice none 0 0] 29)) := ⟨_, rfl⟩
  have b0 : bk w0 (w.heap.size) 29 [.string id, .int .i64 lim, .int .i64 pos, .int .i64 most, .int .i64 sum, .slice AH hs.length cH, .int .i64 sp, .int .i64 hd, .slice AC cs.length cC, .slice AS ss.length cS, .slice AL sl.length cL] := by rw [hW]; have h0 := bk.new (w) 29 [.string id, .int .i64 lim, .int .i64 pos, .int .i64 most, .int .i64 sum, .slice AH hs.length cH, .int .i64 sp, .int .i64 hd, .slice AC cs.length cC, .slice AS ss.length cS, .slice AL sl.length cL]; have h1 := (bk.alloc (bk.alloc (bk.alloc h0 (.cells #[.string id1, .int .i64 lim1, .int .i64 pos1, .int .i64 most1, .int .i64 sum1, .slice AH1 hs1.length cH1, .int .i64 sp1, .int .i64 hd1, .slice AC1 cs1.length cC1, .slice AS1 ss1.length cS1, .slice AL1 sl1.length cL1] 29)) (.cells #[.string ⟨#[]⟩, .int .i64 0, .int .i64 0, .int .i64 0, .int .i64 0, .slice none 0 0, .int .i64 0, .int .i64 0, .slice none 0 0, .slice none 0 0, .slice none 0 0] 29)) (.cells #[.string ⟨#[]⟩, .int .i64 0, .int .i64 0, .int .i64 0, .int .i64 0, .slice none 0 0, .int .i64 0, .int .i64 0, .slice none 0 0, .slice none 0 0, .slice none 0 0] 29)); simpa using h1
  have b1 : bk w0 (w.heap.size + 1) 29 [.string id1, .int .i64 lim1, .int .i64 pos1, .int .i64 most1, .int .i64 sum1, .slice AH1 hs1.length cH1, .int .i64 sp1, .int .i64 hd1, .slice AC1 cs1.length cC1, .slice AS1 ss1.length cS1, .slice AL1 sl1.length cL1] := by rw [hW]; have h0 := bk.new ((w.alloc (.cells #[.string id, .int .i64 lim, .int .i64 pos, .int .i64 most, .int .i64 sum, .slice AH hs.length cH, .int .i64 sp, .int .i64 hd, .slice AC cs.length cC, .slice AS ss.length cS, .slice AL sl.length cL] 29))) 29 [.string id1, .int .i64 lim1, .int .i64 pos1, .int .i64 most1, .int .i64 sum1, .slice AH1 hs1.length cH1, .int .i64 sp1, .int .i64 hd1, .slice AC1 cs1.length cC1, .slice AS1 ss1.length cS1, .slice AL1 sl1.length cL1]; have h1 := (bk.alloc (bk.alloc h0 (.cells #[.string ⟨#[]⟩, .int .i64 0, .int .i64 0, .int .i64 0, .int .i64 0, .slice none 0 0, .int .i64 0, .int .i64 0, .slice none 0 0, .slice none 0 0, .slice none 0 0] 29)) (.cells #[.string ⟨#[]⟩, .int .i64 0, .int .i64 0, .int .i64 0, .int .i64 0, .slice none 0 0, .int .i64 0, .int .i64 0, .slice none 0 0, .slice none 0 0, .slice none 0 0] 29)); simpa using h1
  have b2 : bk w0 (w.heap.size + 1 + 1) 29 [.string ⟨#[]⟩, .int .i64 0, .int .i64 0, .int .i64 0, .int .i64 0, .slice none 0 0, .int .i64 0, .int .i64 0, .slice none 0 0, .slice none 0 0, .slice none 0 0] := by rw [hW]; have h0 := bk.new (((w.alloc (.cells #[.string id, .int .i64 lim, .int .i64 pos, .int .i64 most, .int .i64 sum, .slice AH hs.length cH, .int .i64 sp, .int .i64 hd, .slice AC cs.length cC, .slice AS ss.length cS, .slice AL sl.length cL] 29)).alloc (.cells #[.string id1, .int .i64 lim1, .int .i64 pos1, .int .i64 most1, .int .i64 sum1, .slice AH1 hs1.length cH1, .int .i64 sp1, .int .i64 hd1, .slice AC1 cs1.length cC1, .slice AS1 ss1.length cS1, .slice AL1 sl1.length cL1] 29))) 29 [.string ⟨#[]⟩, .int .i64 0, .int .i64 0, .int .i64 0, .int .i64 0, .slice none 0 0, .int .i64 0, .int .i64 0, .slice none 0 0, .slice none 0 0, .slice none 0 0]; have h1 := (bk.alloc h0 (.cells #[.string ⟨#[]⟩, .int .i64 0, .int .i64 0, .int .i64 0, .int .i64 0, .slice none 0 0, .int .i64 0, .int .i64 0, .slice none 0 0, .slice none 0 0, .slice none 0 0] 29)); simpa using h1
  have b3 : bk w0 (w.heap.size + 1 + 1 + 1) 29 [.string ⟨#[]⟩, .int .i64 0, .int .i64 0, .int .i64 0, .int .i64 0, .slice none 0 0, .int .i64 0, .int .i64 0, .slice none 0 0, .slice none 0 0, .slice none 0 0] := by rw [hW]; have h0 := bk.new ((((w.alloc (.cells #[.string id, .int .i64 lim, .int .i64 pos, .int .i64 most, .int .i64 sum, .slice AH hs.length cH, .int .i64 sp, .int .i64 hd, .slice AC cs.length cC, .slice AS ss.length cS, .slice AL sl.length cL] 29)).alloc (.cells #[.string id1, .int .i64 lim1, .int .i64 pos1, .int .i64 most1, .int .i64 sum1, .slice AH1 hs1.length cH1, .int .i64 sp1, .int .i64 hd1, .slice AC1 cs1.length cC1, .slice AS1 ss1.length cS1, .slice AL1 sl1.length cL1] 29)).alloc (.cells #[.string ⟨#[]⟩, .int .i64 0, .int .i64 0, .int .i64 0, .int .i64 0, .slice none 0 0, .int .i64 0, .int .i64 0, .slice none 0 0, .slice none 0 0, .slice none 0 0] 29))) 29 [.string ⟨#[]⟩, .int .i64 0, .int .i64 0, .int .i64 0, .int .i64 0, .slice none 0 0, .int .i64 0, .int .i64 0, .slice none 0 0, .slice none 0 0, .slice none 0 0]; have h1 := h0; simpa using h1
  have HB : Hid (Below w.heap.size w w0) := Lib.hid (by rw [hW]; exact (((((Below.refl w.heap.size w).alloc (Nat.le_refl _) _).alloc (by simp <;> omega) _).alloc (by simp <;> omega) _).alloc (by simp <;> omega) _))
  have z0 : w.heap.size + 4 ≤ w0.heap.size := by rw [hW]; simp
  rw [← hW]
  clear hW
  have B0 := Lib.hid b0
  have B1 := Lib.hid b1
  have B2 := Lib.hid b2
  have B3 := Lib.hid b3
  clear b0 b1 b2 b3
  have HS : Hid (∀ V, Below w0.heap.size w0 V → V.cell? ⟨w.heap.size, 0, none⟩ = some (.string id) ∧ V.cell? ⟨w.heap.size, 1, none⟩ = some (.int .i64 lim) ∧ V.cell? ⟨w.heap.size, 2, none⟩ = some (.int .i64 pos) ∧ V.cell? ⟨w.heap.size, 3, none⟩ = some (.int .i64 most) ∧ V.cell? ⟨w.heap.size, 4, none⟩ = some (.int .i64 sum) ∧ V.cell? ⟨w.heap.size, 5, none⟩ = some (.slice AH hs.length cH) ∧ V.cell? ⟨w.heap.size, 6, none⟩ = some (.int .i64 sp) ∧ V.cell? ⟨w.heap.size, 7, none⟩ = some (.int .i64 hd) ∧ V.cell? ⟨w.heap.size, 8, none⟩ = some (.slice AC cs.length cC) ∧ V.cell? ⟨w.heap.size, 9, none⟩ = some (.slice AS ss.length cS) ∧ V.cell? ⟨w.heap.size, 10, none⟩ = some (.slice AL sl.length cL) ∧ V.cell? ⟨w.heap.size + 1, 0, none⟩ = some (.string id1) ∧ V.cell? ⟨w.heap.size + 1, 1, none⟩ = some (.int .i64 lim1) ∧ V.cell? ⟨w.heap.size + 1, 2, none⟩ = some (.int .i64 pos1) ∧ V.cell? ⟨w.heap.size + 1, 3, none⟩ = some (.int .i64 most1) ∧ V.cell? ⟨w.heap.size + 1, 4, none⟩ = some (.int .i64 sum1) ∧ V.cell? ⟨w.heap.size + 1, 5, none⟩ = some (.slice AH1 hs1.length cH1) ∧ V.cell? ⟨w.heap.size + 1, 6, none⟩ = some (.int .i64 sp1) ∧ V.cell? ⟨w.heap.size + 1, 7, none⟩ = some (.int .i64 hd1) ∧ V.cell? ⟨w.heap.size + 1, 8, none⟩ = some (.slice AC1 cs1.length cC1) ∧ V.cell? ⟨w.heap.size + 1, 9, none⟩ = some (.slice AS1 ss1.length cS1) ∧ V.cell? ⟨w.heap.size + 1, 10, none⟩ = some (.slice AL1 sl1.length cL1)) := Lib.hid fun V hV => by
    obtain ⟨⟨p0_0, p0_1, p0_2, p0_3, p0_4, p0_5, p0_6, p0_7, p0_8, p0_9, p0_10⟩, -⟩ := (B0.out.below hV (by omega)).eleven
    obtain ⟨⟨p1_0, p1_1, p1_2, p1_3, p1_4, p1_5, p1_6, p1_7, p1_8, p1_9, p1_10⟩, -⟩ := (B1.out.below hV (by omega)).eleven
    exact ⟨p0_0, p0_1, p0_2, p0_3, p0_4, p0_5, p0_6, p0_7, p0_8, p0_9, p0_10, p1_0, p1_1, p1_2, p1_3, p1_4, p1_5, p1_6, p1_7, p1_8, p1_9, p1_10⟩
  have hD : Below w0.heap.size w0 w0.drew := (Below.refl _ _).drew
  have HX1 := Lib.hid (fun V (hV : Below w0.heap.size w0 V) => HSW.out V (HB.out.trans (hV.mono (by omega))))
  have HX2 := Lib.hid (fun V (hV : Below w0.heap.size w0 V) => HSW9.out V (HB.out.trans (hV.mono (by omega))))
  clear HSW HSW9
  go_cut [11, 12] (fun fv gv wx => twoIn w0 (id2, lim2, pos2, most2, sum2, hs2, (sp2, hd2, cs2, ss2), sl2) (id3, lim3, pos3, most3, sum3, hs3, (sp3, hd3, cs3, ss3), sl3) fv gv wx)
  case first =>
      go_region_held3 (fun V => V.cell? ⟨w.heap.size, 0, none⟩ = some (.string id) ∧ V.cell? ⟨w.heap.size, 1, none⟩ = some (.int .i64 lim) ∧ V.cell? ⟨w.heap.size, 2, none⟩ = some (.int .i64 pos) ∧ V.cell? ⟨w.heap.size, 3, none⟩ = some (.int .i64 most) ∧ V.cell? ⟨w.heap.size, 4, none⟩ = some (.int .i64 sum) ∧ V.cell? ⟨w.heap.size, 5, none⟩ = some (.slice AH hs.length cH) ∧ V.cell? ⟨w.heap.size, 6, none⟩ = some (.int .i64 sp) ∧ V.cell? ⟨w.heap.size, 7, none⟩ = some (.int .i64 hd) ∧ V.cell? ⟨w.heap.size, 8, none⟩ = some (.slice AC cs.length cC) ∧ V.cell? ⟨w.heap.size, 9, none⟩ = some (.slice AS ss.length cS) ∧ V.cell? ⟨w.heap.size, 10, none⟩ = some (.slice AL sl.length cL) ∧ V.cell? ⟨w.heap.size + 1, 0, none⟩ = some (.string id1) ∧ V.cell? ⟨w.heap.size + 1, 1, none⟩ = some (.int .i64 lim1) ∧ V.cell? ⟨w.heap.size + 1, 2, none⟩ = some (.int .i64 pos1) ∧ V.cell? ⟨w.heap.size + 1, 3, none⟩ = some (.int .i64 most1) ∧ V.cell? ⟨w.heap.size + 1, 4, none⟩ = some (.int .i64 sum1) ∧ V.cell? ⟨w.heap.size + 1, 5, none⟩ = some (.slice AH1 hs1.length cH1) ∧ V.cell? ⟨w.heap.size + 1, 6, none⟩ = some (.int .i64 sp1) ∧ V.cell? ⟨w.heap.size + 1, 7, none⟩ = some (.int .i64 hd1) ∧ V.cell? ⟨w.heap.size + 1, 8, none⟩ = some (.slice AC1 cs1.length cC1) ∧ V.cell? ⟨w.heap.size + 1, 9, none⟩ = some (.slice AS1 ss1.length cS1) ∧ V.cell? ⟨w.heap.size + 1, 10, none⟩ = some (.slice AL1 sl1.length cL1)) (exact HS.out _ (by repeat (first | (with_reducible assumption) | (with_reducible exact Below.refl _ _) | (with_reducible refine Below.drew ?_) | (with_reducible exact hD) | (with_reducible refine below_alloc ?_ _) | ((with_reducible refine below_set11 ?_ ?_ _ _ _ _ _ _ _ _ _ _ _); rotate_left; omega)))) (first | (go_at_call 21; (with_reducible refine (HX1.out (w0.drew) (hD)).mono ?_); rintro e wA ⟨uh, uc, us, ul, rfl, hm2, hbA⟩; have q0 := hm2.mine.rd; obtain ⟨xh, xc, xs, xl, hcs, r1, r2, r3, r4⟩ := acct_rd q0; simp only [aCells, List.cons.injEq, and_true, true_and] at hcs; obtain ⟨rfl, rfl, rfl, rfl⟩ := hcs; obtain ⟨AH2, cH2, rfl, -⟩ := Rep.slice_form r1; obtain ⟨AL2, cL2, rfl, -⟩ := Rep.slice_form r4; obtain ⟨AC2, cC2, rfl, -⟩ := r2.form; obtain ⟨AS2, cS2, rfl, -⟩ := r3.form; clear q0 r1 r2 r3 r4; simp only [aId, aLim, aPos, aMost, aSum, aH, aS]; have shm2 := hbA.size; have shm2 : w0.heap.size ≤ wA.heap.size := shm2; have ihm2 : AcctI (w0.heap.size) wA.heap.size wA _ _ _ _ _ := hm2; clear hm2; have eA : Below w0.heap.size w0 wA := below_step (hD) hbA; have zA0 := eA.size; have zA1 : wA.heap.size < wA.heap.size + 1 := Nat.lt_succ_self _; have zA2 : wA.heap.size + 1 < wA.heap.size + 1 + 1 := Nat.lt_succ_self _; have tokA := hD) | (go_at_call 21; (with_reducible refine (HX1.out ((w0.alloc (obj0 29)).drew) ((below_alloc (Below.refl _ _) _).drew)).mono ?_); rintro e wA ⟨uh, uc, us, ul, rfl, hm2, hbA⟩; have q0 := hm2.mine.rd; obtain ⟨xh, xc, xs, xl, hcs, r1, r2, r3, r4⟩ := acct_rd q0; simp only [aCells, List.cons.injEq, and_true, true_and] at hcs; obtain ⟨rfl, rfl, rfl, rfl⟩ := hcs; obtain ⟨AH2, cH2, rfl, -⟩ := Rep.slice_form r1; obtain ⟨AL2, cL2, rfl, -⟩ := Rep.slice_form r4; obtain ⟨AC2, cC2, rfl, -⟩ := r2.form; obtain ⟨AS2, cS2, rfl, -⟩ := r3.form; clear q0 r1 r2 r3 r4; simp only [aId, aLim, aPos, aMost, aSum, aH, aS]; have shm2 := hbA.size; rw [size_oneD] at shm2 hm2; have shm2 : w0.heap.size + 1 ≤ wA.heap.size := shm2; have ihm2 : AcctI (w0.heap.size + 1) wA.heap.size wA _ _ _ _ _ := hm2; clear hm2; have eA : Below w0.heap.size w0 wA := below_step ((below_alloc (Below.refl _ _) _).drew) hbA; have zA0 := eA.size; have zA1 : wA.heap.size < wA.heap.size + 1 := Nat.lt_succ_self _; have zA2 : wA.heap.size + 1 < wA.heap.size + 1 + 1 := Nat.lt_succ_self _; have xa : bk0 wA w0.heap.size 29 := bk0_oneD (V := w0) hbA) | (go_at_call 21; (with_reducible refine (HX1.out (((w0.alloc (obj0 29)).alloc (obj0 29)).drew) ((below_alloc (below_alloc (Below.refl _ _) _) _).drew)).mono ?_); rintro e wA ⟨uh, uc, us, ul, rfl, hm2, hbA⟩; have q0 := hm2.mine.rd; obtain ⟨xh, xc, xs, xl, hcs, r1, r2, r3, r4⟩ := acct_rd q0; simp only [aCells, List.cons.injEq, and_true, true_and] at hcs; obtain ⟨rfl, rfl, rfl, rfl⟩ := hcs; obtain ⟨AH2, cH2, rfl, -⟩ := Rep.slice_form r1; obtain ⟨AL2, cL2, rfl, -⟩ := Rep.slice_form r4; obtain ⟨AC2, cC2, rfl, -⟩ := r2.form; obtain ⟨AS2, cS2, rfl, -⟩ := r3.form; clear q0 r1 r2 r3 r4; simp only [aId, aLim, aPos, aMost, aSum, aH, aS]; have shm2 := hbA.size; rw [size_twoD] at shm2 hm2; have shm2 : w0.heap.size + 1 + 1 ≤ wA.heap.size := shm2; have ihm2 : AcctI (w0.heap.size + 1 + 1) wA.heap.size wA _ _ _ _ _ := hm2; clear hm2; have eA : Below w0.heap.size w0 wA := below_step ((below_alloc (below_alloc (Below.refl _ _) _) _).drew) hbA; have zA0 := eA.size; have zA1 : wA.heap.size < wA.heap.size + 1 := Nat.lt_succ_self _; have zA2 : wA.heap.size + 1 < wA.heap.size + 1 + 1 := Nat.lt_succ_self _; have xb : bk0 wA w0.heap.size 29 := bk0_fstD (V := w0) hbA; have xc : bk0 wA (w0.heap.size + 1) 29 := bk0_sndD (V := w0) hbA) | (go_at_call 21; (with_reducible refine (HX2.out wA eA).mono ?_); rintro e wB ⟨uh, uc, us, ul, rfl, hm3, hbB⟩; have q0 := hm3.mine.rd; obtain ⟨xh, xc, xs, xl, hcs, r1, r2, r3, r4⟩ := acct_rd q0; simp only [aCells, List.cons.injEq, and_true, true_and] at hcs; obtain ⟨rfl, rfl, rfl, rfl⟩ := hcs; obtain ⟨AH3, cH3, rfl, -⟩ := Rep.slice_form r1; obtain ⟨AL3, cL3, rfl, -⟩ := Rep.slice_form r4; obtain ⟨AC3, cC3, rfl, -⟩ := r2.form; obtain ⟨AS3, cS3, rfl, -⟩ := r3.form; clear q0 r1 r2 r3 r4; simp only [aId, aLim, aPos, aMost, aSum, aH, aS]; have shm3 := hbB.size; have shm3 : wA.heap.size ≤ wB.heap.size := shm3; have ihm3 : AcctI (wA.heap.size) wB.heap.size wB _ _ _ _ _ := hm3; clear hm3; have eB : Below w0.heap.size w0 wB := below_step eA hbB; have zB0 := eB.size; have zB1 : wB.heap.size < wB.heap.size + 1 := Nat.lt_succ_self _; have zB2 : wB.heap.size + 1 < wB.heap.size + 1 + 1 := Nat.lt_succ_self _; have eAB : Below wA.heap.size wA wB := hbB; have jm2 := ihm2.below eAB (Nat.le_refl _); (first | (have ya := xa.below eAB xa.lt; obtain ⟨⟨yac0, yac1, yac2, yac3, yac4, yac5, yac6, yac7, yac8, yac9, yac10⟩, yad0, yad1, yad2, yad3, yad4, yad5, yad6, yad7, yad8, yad9, yad10⟩ := ya.eleven; have yal : w0.heap.size < wB.heap.size := ya.lt) | (have yb := xb.below eAB xb.lt; obtain ⟨⟨ybc0, ybc1, ybc2, ybc3, ybc4, ybc5, ybc6, ybc7, ybc8, ybc9, ybc10⟩, ybd0, ybd1, ybd2, ybd3, ybd4, ybd5, ybd6, ybd7, ybd8, ybd9, ybd10⟩ := yb.eleven; have ybl : w0.heap.size < wB.heap.size := yb.lt; have yc := xc.below eAB xc.lt; obtain ⟨⟨ycc0, ycc1, ycc2, ycc3, ycc4, ycc5, ycc6, ycc7, ycc8, ycc9, ycc10⟩, ycd0, ycd1, ycd2, ycd3, ycd4, ycd5, ycd6, ycd7, ycd8, ycd9, ycd10⟩ := yc.eleven; have ycl : w0.heap.size + 1 < wB.heap.size := yc.lt) | skip)) | (go_at_call 21; (with_reducible refine (HX2.out (wA.alloc (obj0 29)) (below_alloc eA _)).mono ?_); rintro e wB ⟨uh, uc, us, ul, rfl, hm3, hbB⟩; have q0 := hm3.mine.rd; obtain ⟨xh, xc, xs, xl, hcs, r1, r2, r3, r4⟩ := acct_rd q0; simp only [aCells, List.cons.injEq, and_true, true_and] at hcs; obtain ⟨rfl, rfl, rfl, rfl⟩ := hcs; obtain ⟨AH3, cH3, rfl, -⟩ := Rep.slice_form r1; obtain ⟨AL3, cL3, rfl, -⟩ := Rep.slice_form r4; obtain ⟨AC3, cC3, rfl, -⟩ := r2.form; obtain ⟨AS3, cS3, rfl, -⟩ := r3.form; clear q0 r1 r2 r3 r4; simp only [aId, aLim, aPos, aMost, aSum, aH, aS]; have shm3 := hbB.size; rw [size_one] at shm3 hm3; have shm3 : wA.heap.size + 1 ≤ wB.heap.size := shm3; have ihm3 : AcctI (wA.heap.size + 1) wB.heap.size wB _ _ _ _ _ := hm3; clear hm3; have eB : Below w0.heap.size w0 wB := below_step (below_alloc eA _) hbB; have zB0 := eB.size; have zB1 : wB.heap.size < wB.heap.size + 1 := Nat.lt_succ_self _; have zB2 : wB.heap.size + 1 < wB.heap.size + 1 + 1 := Nat.lt_succ_self _; have eAB : Below wA.heap.size wA wB := (below_one hbB); have jm2 := ihm2.below eAB (Nat.le_refl _); have yd : bk0 wB wA.heap.size 29 := bk0_one (V := wA) hbB; obtain ⟨⟨ydc0, ydc1, ydc2, ydc3, ydc4, ydc5, ydc6, ydc7, ydc8, ydc9, ydc10⟩, ydd0, ydd1, ydd2, ydd3, ydd4, ydd5, ydd6, ydd7, ydd8, ydd9, ydd10⟩ := yd.eleven; have ydl : wA.heap.size < wB.heap.size := yd.lt; (first | (have ya := xa.below eAB xa.lt; obtain ⟨⟨yac0, yac1, yac2, yac3, yac4, yac5, yac6, yac7, yac8, yac9, yac10⟩, yad0, yad1, yad2, yad3, yad4, yad5, yad6, yad7, yad8, yad9, yad10⟩ := ya.eleven; have yal : w0.heap.size < wB.heap.size := ya.lt) | skip)) | (go_at_call 21; (with_reducible refine (HX2.out ((wA.alloc (obj0 29)).alloc (obj0 29)) (below_alloc (below_alloc eA _) _)).mono ?_); rintro e wB ⟨uh, uc, us, ul, rfl, hm3, hbB⟩; have q0 := hm3.mine.rd; obtain ⟨xh, xc, xs, xl, hcs, r1, r2, r3, r4⟩ := acct_rd q0; simp only [aCells, List.cons.injEq, and_true, true_and] at hcs; obtain ⟨rfl, rfl, rfl, rfl⟩ := hcs; obtain ⟨AH3, cH3, rfl, -⟩ := Rep.slice_form r1; obtain ⟨AL3, cL3, rfl, -⟩ := Rep.slice_form r4; obtain ⟨AC3, cC3, rfl, -⟩ := r2.form; obtain ⟨AS3, cS3, rfl, -⟩ := r3.form; clear q0 r1 r2 r3 r4; simp only [aId, aLim, aPos, aMost, aSum, aH, aS]; have shm3 := hbB.size; rw [size_two] at shm3 hm3; have shm3 : wA.heap.size + 1 + 1 ≤ wB.heap.size := shm3; have ihm3 : AcctI (wA.heap.size + 1 + 1) wB.heap.size wB _ _ _ _ _ := hm3; clear hm3; have eB : Below w0.heap.size w0 wB := below_step (below_alloc (below_alloc eA _) _) hbB; have zB0 := eB.size; have zB1 : wB.heap.size < wB.heap.size + 1 := Nat.lt_succ_self _; have zB2 : wB.heap.size + 1 < wB.heap.size + 1 + 1 := Nat.lt_succ_self _; have eAB : Below wA.heap.size wA wB := (below_two hbB); have jm2 := ihm2.below eAB (Nat.le_refl _); have ye : bk0 wB wA.heap.size 29 := bk0_fst (V := wA) hbB; obtain ⟨⟨yec0, yec1, yec2, yec3, yec4, yec5, yec6, yec7, yec8, yec9, yec10⟩, yed0, yed1, yed2, yed3, yed4, yed5, yed6, yed7, yed8, yed9, yed10⟩ := ye.eleven; have yel : wA.heap.size < wB.heap.size := ye.lt; have yf : bk0 wB (wA.heap.size + 1) 29 := bk0_snd (V := wA) hbB; obtain ⟨⟨yfc0, yfc1, yfc2, yfc3, yfc4, yfc5, yfc6, yfc7, yfc8, yfc9, yfc10⟩, yfd0, yfd1, yfd2, yfd3, yfd4, yfd5, yfd6, yfd7, yfd8, yfd9, yfd10⟩ := yf.eleven; have yfl : wA.heap.size + 1 < wB.heap.size := yf.lt) | fail)
      all_goals go_wp2
      all_goals go_meet
      all_goals first | (with_reducible exact twoIn.mk2a jm2 ihm3 eB (by omega)) | (with_reducible exact twoIn.mk2b jm2 ihm3 eB (by omega)) | (with_reducible exact twoIn.mk1a ya jm2 ihm3 eB (by omega) (by omega) (by omega)) | (with_reducible exact twoIn.mk1b ya jm2 ihm3 eB (by omega) (by omega) (by omega)) | (with_reducible exact twoIn.mk1a yb jm2 ihm3 eB (by omega) (by omega) (by omega)) | (with_reducible exact twoIn.mk1b yb jm2 ihm3 eB (by omega) (by omega) (by omega)) | (with_reducible exact twoIn.mk1a yc jm2 ihm3 eB (by omega) (by omega) (by omega)) | (with_reducible exact twoIn.mk1b yc jm2 ihm3 eB (by omega) (by omega) (by omega)) | (with_reducible exact twoIn.mk1a yd jm2 ihm3 eB (by omega) (by omega) (by omega)) | (with_reducible exact twoIn.mk1b yd jm2 ihm3 eB (by omega) (by omega) (by omega)) | (with_reducible exact twoIn.mk1a ye jm2 ihm3 eB (by omega) (by omega) (by omega)) | (with_reducible exact twoIn.mk1b ye jm2 ihm3 eB (by omega) (by omega) (by omega)) | (with_reducible exact twoIn.mk1a yf jm2 ihm3 eB (by omega) (by omega) (by omega)) | (with_reducible exact twoIn.mk1b yf jm2 ihm3 eB (by omega) (by omega) (by omega)) | (with_reducible exact twoIn.mk0 ya yd jm2 ihm3 eB (by omega) (by omega) (by omega)) | (with_reducible exact twoIn.mk0 yd ya jm2 ihm3 eB (by omega) (by omega) (by omega)) | (with_reducible exact twoIn.mk0 yb yc jm2 ihm3 eB (by omega) (by omega) (by omega)) | (with_reducible exact twoIn.mk0 yc yb jm2 ihm3 eB (by omega) (by omega) (by omega)) | (with_reducible exact twoIn.mk0 ye yf jm2 ihm3 eB (by omega) (by omega) (by omega)) | (with_reducible exact twoIn.mk0 yf ye jm2 ihm3 eB (by omega) (by omega) (by omega)) | exact twoIn.mk2a jm2 ihm3 eB (by omega) | exact twoIn.mk2b jm2 ihm3 eB (by omega) | exact twoIn.mk1a ya jm2 ihm3 eB (by omega) (by omega) (by omega) | exact twoIn.mk1b ya jm2 ihm3 eB (by omega) (by omega) (by omega) | exact twoIn.mk1a yb jm2 ihm3 eB (by omega) (by omega) (by omega) | exact twoIn.mk1b yb jm2 ihm3 eB (by omega) (by omega) (by omega) | exact twoIn.mk1a yc jm2 ihm3 eB (by omega) (by omega) (by omega) | exact twoIn.mk1b yc jm2 ihm3 eB (by omega) (by omega) (by omega) | exact twoIn.mk1a yd jm2 ihm3 eB (by omega) (by omega) (by omega) | exact twoIn.mk1b yd jm2 ihm3 eB (by omega) (by omega) (by omega) | exact twoIn.mk1a ye jm2 ihm3 eB (by omega) (by omega) (by omega) | exact twoIn.mk1b ye jm2 ihm3 eB (by omega) (by omega) (by omega) | exact twoIn.mk1a yf jm2 ihm3 eB (by omega) (by omega) (by omega) | exact twoIn.mk1b yf jm2 ihm3 eB (by omega) (by omega) (by omega) | exact twoIn.mk0 ya yd jm2 ihm3 eB (by omega) (by omega) (by omega) | exact twoIn.mk0 yd ya jm2 ihm3 eB (by omega) (by omega) (by omega) | exact twoIn.mk0 yb yc jm2 ihm3 eB (by omega) (by omega) (by omega) | exact twoIn.mk0 yc yb jm2 ihm3 eB (by omega) (by omega) (by omega) | exact twoIn.mk0 ye yf jm2 ihm3 eB (by omega) (by omega) (by omega) | exact twoIn.mk0 yf ye jm2 ihm3 eB (by omega) (by omega) (by omega)
  case rest =>
    obtain ⟨f, g, A1, A2, A3, A4, A5, A6, A7, A8, c1, c2, c3, c4, c5, c6, c7, c8, l1, h1, l2, h2, rfl, rfl, bF, bG, hI1, hI2, ⟨q1, q2, q3, q4, q5⟩, ⟨q6, q7, q8⟩, o1, o2, o3, o4, hb⟩ := hcut
    simp only [aId, aLim, aPos, aMost, aSum, aH, aS] at bF bG hI1 hI2
    clear HX1 HX2 HS hD
    have zwc := hb.size
    replace B0 := Lib.hid (B0.out.below hb (by omega))
    replace B1 := Lib.hid (B1.out.below hb (by omega))
    replace B2 := Lib.hid (B2.out.below hb (by omega))
    replace B3 := Lib.hid (B3.out.below hb (by omega))
    replace HB : Hid (Below w.heap.size w wc) := Lib.hid (HB.out.trans (hb.mono (by omega)))
    have BF := Lib.hid bF
    have BG := Lib.hid bG
    have HM := Lib.hid hI1
    have HN := Lib.hid hI2
    have zF := bF.lt
    have zG := bG.lt
    clear bF bG hI1 hI2 hb
    have HQ := Lib.hid (And.intro q1 (And.intro q2 (And.intro q3 (And.intro q4 (And.intro q5 (And.intro q6 (And.intro q7 (And.intro q8 (And.intro zF zG)))))))))
    clear o1 o2 o3 o4
    obtain ⟨⟨p0, p1, p2, p3, p4, p5, p6, p7, p8, p9, p10⟩, -⟩ := BF.out.eleven
    have HYZ := Lib.hid (holdFor_size (id := s) HSB.out.hi)
    go_wp2_with fail
    refine (implHoldOf_any _ _ _ _ _ (id2, lim2, pos2, most2, sum2, hs2, (sp2, hd2, cs2, ss2), sl2) s wc HSZ.out HM.out.mine.rd (by omega)).mono ?_
    rintro e w21 ⟨rfl, hb⟩
    have z21 := hb.size
    replace B0 := Lib.hid (B0.out.below hb (by omega))
    replace B1 := Lib.hid (B1.out.below hb (by omega))
    replace B2 := Lib.hid (B2.out.below hb (by omega))
    replace B3 := Lib.hid (B3.out.below hb (by omega))
    replace BF := Lib.hid (BF.out.below hb (by omega))
    replace BG := Lib.hid (BG.out.below hb (by omega))
    replace HM := Lib.hid (HM.out.below hb (by omega))
    replace HN := Lib.hid (HN.out.below hb (by omega))
    replace HB : Hid (Below w.heap.size w w21) := Lib.hid (HB.out.trans (hb.mono (by omega)))
    clear hb p0 p1 p2 p3 p4 p5 p6 p7 p8 p9 p10
    simp only [aH] at HCO HYZ ⊢
    generalize holdFor hs2 s = y at HCO HYZ ⊢
    obtain ⟨yi, yn, yu⟩ := y
    dsimp only at HCO HYZ ⊢
    go_upto_region 3 with fail
    obtain ⟨w22, hW⟩ : ∃ V, V = w21.alloc (.cells #[.string yi, .int .i64 yn, .int .i64 yu] 33) := ⟨_, rfl⟩
    have bx : bk w22 w21.heap.size 33 [.string yi, .int .i64 yn, .int .i64 yu] := by rw [hW]; exact bk.new w21 _ _
    have hb : Below w21.heap.size w21 w22 := by rw [hW]; exact (Below.refl _ _).alloc (Nat.le_refl _) _
    rw [← hW]
    clear hW
    have z22 := bx.lt
    have y22 := hb.size
    replace B0 := Lib.hid (B0.out.below hb (by omega))
    replace B1 := Lib.hid (B1.out.below hb (by omega))
    replace B2 := Lib.hid (B2.out.below hb (by omega))
    replace B3 := Lib.hid (B3.out.below hb (by omega))
    replace BF := Lib.hid (BF.out.below hb (by omega))
    replace BG := Lib.hid (BG.out.below hb (by omega))
    replace HM := Lib.hid (HM.out.below hb (by omega))
    replace HN := Lib.hid (HN.out.below hb (by omega))
    replace HB : Hid (Below w.heap.size w w22) := Lib.hid (HB.out.trans (hb.mono (by omega)))
    have BH := Lib.hid bx
    clear hb bx
    have HK4 : Hid (∀ V, Below w22.heap.size w22 V → Calls Tryz.prog 59 #[.agg #[.string id2, .int .i64 lim2, .int .i64 pos2, .int .i64 most2, .int .i64 sum2, .slice A1 hs2.length c1, .int .i64 sp2, .int .i64 hd2, .slice A2 cs2.length c2, .slice A3 ss2.length c3, .slice A4 sl2.length c4], .string s] V (chkRes (kHeld (id2, lim2, pos2, most2, sum2, hs2, (sp2, hd2, cs2, ss2), sl2) s) V)) := Lib.hid (fun V hV => implHeldCheck_any _ _ _ _ _ (id2, lim2, pos2, most2, sum2, hs2, (sp2, hd2, cs2, ss2), sl2) s V HSZ.out HSB.out (Rep.below (R := AcctR) HM.out.mine.rd hV (by omega)) (Nat.le_trans (by omega) hV.size))
    generalize kHeld (id2, lim2, pos2, most2, sum2, hs2, (sp2, hd2, cs2, ss2), sl2) s = k4 at HK4 HCO
    have HK5 : Hid (∀ V, Below w22.heap.size w22 V → Calls Tryz.prog 74 #[.agg #[.string id3, .int .i64 lim3, .int .i64 pos3, .int .i64 most3, .int .i64 sum3, .slice A5 hs3.length c5, .int .i64 sp3, .int .i64 hd3, .slice A6 cs3.length c6, .slice A7 ss3.length c7, .slice A8 sl3.length c8], .string s] V (chkRes (kTwice (id3, lim3, pos3, most3, sum3, hs3, (sp3, hd3, cs3, ss3), sl3) s) V)) := Lib.hid (fun V hV => implTwiceCheck_any _ _ _ _ _ (id3, lim3, pos3, most3, sum3, hs3, (sp3, hd3, cs3, ss3), sl3) s V HSZ9.out HSB9.out (Rep.below (R := AcctR) HN.out.mine.rd hV (by omega)) (Nat.le_trans (by omega) hV.size))
    generalize kTwice (id3, lim3, pos3, most3, sum3, hs3, (sp3, hd3, cs3, ss3), sl3) s = k5 at HK5 HCO
    have HK6 : Hid (∀ V, Below w22.heap.size w22 V → Calls Tryz.prog 75 #[.agg #[.string id3, .int .i64 lim3, .int .i64 pos3, .int .i64 most3, .int .i64 sum3, .slice A5 hs3.length c5, .int .i64 sp3, .int .i64 hd3, .slice A6 cs3.length c6, .slice A7 ss3.length c7, .slice A8 sl3.length c8]] V (chkRes (kFull (id3, lim3, pos3, most3, sum3, hs3, (sp3, hd3, cs3, ss3), sl3)) V)) := Lib.hid (fun V hV => implFullCheck_any _ _ _ _ _ (id3, lim3, pos3, most3, sum3, hs3, (sp3, hd3, cs3, ss3), sl3)  V HSZ9.out HSB9.out (Rep.below (R := AcctR) HN.out.mine.rd hV (by omega)) (Nat.le_trans (by omega) hV.size))
    generalize kFull (id3, lim3, pos3, most3, sum3, hs3, (sp3, hd3, cs3, ss3), sl3) = k6 at HK6 HCO
    have HRM : Hid (∀ V, Below w22.heap.size w22 V → Calls Tryz.prog 22 #[.agg #[.string id3, .int .i64 lim3, .int .i64 pos3, .int .i64 most3, .int .i64 sum3, .slice A5 hs3.length c5, .int .i64 sp3, .int .i64 hd3, .slice A6 cs3.length c6, .slice A7 ss3.length c7, .slice A8 sl3.length c8], .int .i64 now] V (fun e w' => e = .returned (.int .i64 (roomOf (id3, lim3, pos3, most3, sum3, hs3, (sp3, hd3, cs3, ss3), sl3) now)) ∧ Below V.heap.size V w')) := Lib.hid (fun V hV => implRoom_any _ _ _ _ _ (id3, lim3, pos3, most3, sum3, hs3, (sp3, hd3, cs3, ss3), sl3) now V ((HG.out.below HB.out (Nat.le_refl _)).below hV (Nat.le_refl _)) HSZ9.out HSB9.out (Rep.below (R := AcctR) HN.out.mine.rd hV (by omega)) (Nat.le_trans (by omega) hV.size))
    generalize roomOf (id3, lim3, pos3, most3, sum3, hs3, (sp3, hd3, cs3, ss3), sl3) now = rm at HRM HCO
    have HK7 : Hid (∀ V, Below w22.heap.size w22 V → Calls Tryz.prog 60 #[.int .i64 yn, .int .i64 rm] V (chkRes (kFunds yn rm) V)) := Lib.hid (fun V _ => implFundsCheck_any yn rm V)
    generalize kFunds yn rm = k7 at HK7 HCO
    have HK3 : Hid (∀ V, Below w22.heap.size w22 V → Calls Tryz.prog 84 #[.int .i64 4, .func (.func 85) #[] #[.pointer (some ⟨w.heap.size, 0, none⟩), .pointer (some ⟨w.heap.size + 1, 0, none⟩)]] V (chkRes (codeIf (decide (id = id1)) 4) V)) := Lib.hid (fun V hV => implRefuseIf_any 4 _ _ _ V (eq_says id id1 _ _ V w.heap.size (w.heap.size + 1) (B0.out.below hV (by omega)) (B1.out.below hV (by omega))))
    generalize codeIf (decide (id = id1)) 4 = k3 at HK3 HCO
    have HK2 : Hid (∀ V, Below w22.heap.size w22 V → Calls Tryz.prog 57 #[.string s] V (chkRes (kId s) V)) := Lib.hid (fun V _ => implIdCheck_any s V hsz)
    generalize kId s = k2 at HK2 HCO
    have HK0 := Lib.hid (fun V (hV : Below w22.heap.size w22 V) => HST.out V (HB.out.trans (hV.mono (by omega))))
    have HK1 := Lib.hid (fun V (hV : Below w22.heap.size w22 V) => HST9.out V (HB.out.trans (hV.mono (by omega))))
    clear HST HST9
    have HS : Hid (∀ V, Below w22.heap.size w22 V → V.cell? ⟨w.heap.size, 0, none⟩ = some (.string id) ∧ V.cell? ⟨w.heap.size, 1, none⟩ = some (.int .i64 lim) ∧ V.cell? ⟨w.heap.size, 2, none⟩ = some (.int .i64 pos) ∧ V.cell? ⟨w.heap.size, 3, none⟩ = some (.int .i64 most) ∧ V.cell? ⟨w.heap.size, 4, none⟩ = some (.int .i64 sum) ∧ V.cell? ⟨w.heap.size, 5, none⟩ = some (.slice AH hs.length cH) ∧ V.cell? ⟨w.heap.size, 6, none⟩ = some (.int .i64 sp) ∧ V.cell? ⟨w.heap.size, 7, none⟩ = some (.int .i64 hd) ∧ V.cell? ⟨w.heap.size, 8, none⟩ = some (.slice AC cs.length cC) ∧ V.cell? ⟨w.heap.size, 9, none⟩ = some (.slice AS ss.length cS) ∧ V.cell? ⟨w.heap.size, 10, none⟩ = some (.slice AL sl.length cL) ∧ V.cell? ⟨w.heap.size + 1, 0, none⟩ = some (.string id1) ∧ V.cell? ⟨w.heap.size + 1, 1, none⟩ = some (.int .i64 lim1) ∧ V.cell? ⟨w.heap.size + 1, 2, none⟩ = some (.int .i64 pos1) ∧ V.cell? ⟨w.heap.size + 1, 3, none⟩ = some (.int .i64 most1) ∧ V.cell? ⟨w.heap.size + 1, 4, none⟩ = some (.int .i64 sum1) ∧ V.cell? ⟨w.heap.size + 1, 5, none⟩ = some (.slice AH1 hs1.length cH1) ∧ V.cell? ⟨w.heap.size + 1, 6, none⟩ = some (.int .i64 sp1) ∧ V.cell? ⟨w.heap.size + 1, 7, none⟩ = some (.int .i64 hd1) ∧ V.cell? ⟨w.heap.size + 1, 8, none⟩ = some (.slice AC1 cs1.length cC1) ∧ V.cell? ⟨w.heap.size + 1, 9, none⟩ = some (.slice AS1 ss1.length cS1) ∧ V.cell? ⟨w.heap.size + 1, 10, none⟩ = some (.slice AL1 sl1.length cL1) ∧ V.cell? ⟨f, 0, none⟩ = some (.string id2) ∧ V.cell? ⟨f, 1, none⟩ = some (.int .i64 lim2) ∧ V.cell? ⟨f, 2, none⟩ = some (.int .i64 pos2) ∧ V.cell? ⟨f, 3, none⟩ = some (.int .i64 most2) ∧ V.cell? ⟨f, 4, none⟩ = some (.int .i64 sum2) ∧ V.cell? ⟨f, 5, none⟩ = some (.slice A1 hs2.length c1) ∧ V.cell? ⟨f, 6, none⟩ = some (.int .i64 sp2) ∧ V.cell? ⟨f, 7, none⟩ = some (.int .i64 hd2) ∧ V.cell? ⟨f, 8, none⟩ = some (.slice A2 cs2.length c2) ∧ V.cell? ⟨f, 9, none⟩ = some (.slice A3 ss2.length c3) ∧ V.cell? ⟨f, 10, none⟩ = some (.slice A4 sl2.length c4) ∧ V.cell? ⟨g, 0, none⟩ = some (.string id3) ∧ V.cell? ⟨g, 1, none⟩ = some (.int .i64 lim3) ∧ V.cell? ⟨g, 2, none⟩ = some (.int .i64 pos3) ∧ V.cell? ⟨g, 3, none⟩ = some (.int .i64 most3) ∧ V.cell? ⟨g, 4, none⟩ = some (.int .i64 sum3) ∧ V.cell? ⟨g, 5, none⟩ = some (.slice A5 hs3.length c5) ∧ V.cell? ⟨g, 6, none⟩ = some (.int .i64 sp3) ∧ V.cell? ⟨g, 7, none⟩ = some (.int .i64 hd3) ∧ V.cell? ⟨g, 8, none⟩ = some (.slice A6 cs3.length c6) ∧ V.cell? ⟨g, 9, none⟩ = some (.slice A7 ss3.length c7) ∧ V.cell? ⟨g, 10, none⟩ = some (.slice A8 sl3.length c8) ∧ V.cell? ⟨w21.heap.size, 0, none⟩ = some (.string yi) ∧ V.cell? ⟨w21.heap.size, 1, none⟩ = some (.int .i64 yn) ∧ V.cell? ⟨w21.heap.size, 2, none⟩ = some (.int .i64 yu)) := Lib.hid fun V hV => by
      obtain ⟨⟨p0_0, p0_1, p0_2, p0_3, p0_4, p0_5, p0_6, p0_7, p0_8, p0_9, p0_10⟩, -⟩ := (B0.out.below hV (by omega)).eleven
      obtain ⟨⟨p1_0, p1_1, p1_2, p1_3, p1_4, p1_5, p1_6, p1_7, p1_8, p1_9, p1_10⟩, -⟩ := (B1.out.below hV (by omega)).eleven
      obtain ⟨⟨p2_0, p2_1, p2_2, p2_3, p2_4, p2_5, p2_6, p2_7, p2_8, p2_9, p2_10⟩, -⟩ := (BF.out.below hV (by omega)).eleven
      obtain ⟨⟨p3_0, p3_1, p3_2, p3_3, p3_4, p3_5, p3_6, p3_7, p3_8, p3_9, p3_10⟩, -⟩ := (BG.out.below hV (by omega)).eleven
      exact ⟨p0_0, p0_1, p0_2, p0_3, p0_4, p0_5, p0_6, p0_7, p0_8, p0_9, p0_10, p1_0, p1_1, p1_2, p1_3, p1_4, p1_5, p1_6, p1_7, p1_8, p1_9, p1_10, p2_0, p2_1, p2_2, p2_3, p2_4, p2_5, p2_6, p2_7, p2_8, p2_9, p2_10, p3_0, p3_1, p3_2, p3_3, p3_4, p3_5, p3_6, p3_7, p3_8, p3_9, p3_10, ((BH.out.below hV (by omega)).cell 0), ((BH.out.below hV (by omega)).cell 1), ((BH.out.below hV (by omega)).cell 2)⟩
    have hD : Below w22.heap.size w22 w22.drew := (Below.refl _ _).drew
    go_cut [14] (fun kv wx => kv = .int .i64 (firstC [k0, k1, k2, k3, k4, k5, k6, k7]) ∧ Below w22.heap.size w22 wx)
    case first =>
      go_region_held3 (fun V => V.cell? ⟨w.heap.size, 0, none⟩ = some (.string id) ∧ V.cell? ⟨w.heap.size, 1, none⟩ = some (.int .i64 lim) ∧ V.cell? ⟨w.heap.size, 2, none⟩ = some (.int .i64 pos) ∧ V.cell? ⟨w.heap.size, 3, none⟩ = some (.int .i64 most) ∧ V.cell? ⟨w.heap.size, 4, none⟩ = some (.int .i64 sum) ∧ V.cell? ⟨w.heap.size, 5, none⟩ = some (.slice AH hs.length cH) ∧ V.cell? ⟨w.heap.size, 6, none⟩ = some (.int .i64 sp) ∧ V.cell? ⟨w.heap.size, 7, none⟩ = some (.int .i64 hd) ∧ V.cell? ⟨w.heap.size, 8, none⟩ = some (.slice AC cs.length cC) ∧ V.cell? ⟨w.heap.size, 9, none⟩ = some (.slice AS ss.length cS) ∧ V.cell? ⟨w.heap.size, 10, none⟩ = some (.slice AL sl.length cL) ∧ V.cell? ⟨w.heap.size + 1, 0, none⟩ = some (.string id1) ∧ V.cell? ⟨w.heap.size + 1, 1, none⟩ = some (.int .i64 lim1) ∧ V.cell? ⟨w.heap.size + 1, 2, none⟩ = some (.int .i64 pos1) ∧ V.cell? ⟨w.heap.size + 1, 3, none⟩ = some (.int .i64 most1) ∧ V.cell? ⟨w.heap.size + 1, 4, none⟩ = some (.int .i64 sum1) ∧ V.cell? ⟨w.heap.size + 1, 5, none⟩ = some (.slice AH1 hs1.length cH1) ∧ V.cell? ⟨w.heap.size + 1, 6, none⟩ = some (.int .i64 sp1) ∧ V.cell? ⟨w.heap.size + 1, 7, none⟩ = some (.int .i64 hd1) ∧ V.cell? ⟨w.heap.size + 1, 8, none⟩ = some (.slice AC1 cs1.length cC1) ∧ V.cell? ⟨w.heap.size + 1, 9, none⟩ = some (.slice AS1 ss1.length cS1) ∧ V.cell? ⟨w.heap.size + 1, 10, none⟩ = some (.slice AL1 sl1.length cL1) ∧ V.cell? ⟨f, 0, none⟩ = some (.string id2) ∧ V.cell? ⟨f, 1, none⟩ = some (.int .i64 lim2) ∧ V.cell? ⟨f, 2, none⟩ = some (.int .i64 pos2) ∧ V.cell? ⟨f, 3, none⟩ = some (.int .i64 most2) ∧ V.cell? ⟨f, 4, none⟩ = some (.int .i64 sum2) ∧ V.cell? ⟨f, 5, none⟩ = some (.slice A1 hs2.length c1) ∧ V.cell? ⟨f, 6, none⟩ = some (.int .i64 sp2) ∧ V.cell? ⟨f, 7, none⟩ = some (.int .i64 hd2) ∧ V.cell? ⟨f, 8, none⟩ = some (.slice A2 cs2.length c2) ∧ V.cell? ⟨f, 9, none⟩ = some (.slice A3 ss2.length c3) ∧ V.cell? ⟨f, 10, none⟩ = some (.slice A4 sl2.length c4) ∧ V.cell? ⟨g, 0, none⟩ = some (.string id3) ∧ V.cell? ⟨g, 1, none⟩ = some (.int .i64 lim3) ∧ V.cell? ⟨g, 2, none⟩ = some (.int .i64 pos3) ∧ V.cell? ⟨g, 3, none⟩ = some (.int .i64 most3) ∧ V.cell? ⟨g, 4, none⟩ = some (.int .i64 sum3) ∧ V.cell? ⟨g, 5, none⟩ = some (.slice A5 hs3.length c5) ∧ V.cell? ⟨g, 6, none⟩ = some (.int .i64 sp3) ∧ V.cell? ⟨g, 7, none⟩ = some (.int .i64 hd3) ∧ V.cell? ⟨g, 8, none⟩ = some (.slice A6 cs3.length c6) ∧ V.cell? ⟨g, 9, none⟩ = some (.slice A7 ss3.length c7) ∧ V.cell? ⟨g, 10, none⟩ = some (.slice A8 sl3.length c8) ∧ V.cell? ⟨w21.heap.size, 0, none⟩ = some (.string yi) ∧ V.cell? ⟨w21.heap.size, 1, none⟩ = some (.int .i64 yn) ∧ V.cell? ⟨w21.heap.size, 2, none⟩ = some (.int .i64 yu)) (first | exact HS.out _ (by assumption) | exact HS.out _ (e8.alloc e8.size _)) (first | (go_at_call 56; (with_reducible refine (HK0.out _ hD).mono ?_); rintro e wk0 ⟨gg0, ll0, rfl, hc0, hbk0⟩; have e0 := hD.trans (hbk0.mono hD.size)) | (go_at_call 56; (with_reducible refine (HK1.out _ e0).mono ?_); rintro e wk1 ⟨gg1, ll1, rfl, hc1, hbk1⟩; have e1 := e0.trans (hbk1.mono e0.size)) | (go_at_call 57; (with_reducible refine (HK2.out _ e1).mono ?_); rintro e wk2 ⟨gg2, ll2, rfl, hc2, hbk2⟩; have e2 := e1.trans (hbk2.mono e1.size)) | (go_at_call 84; (with_reducible refine (HK3.out _ e2).mono ?_); rintro e wk3 ⟨gg3, ll3, rfl, hc3, hbk3⟩; have e3 := e2.trans (hbk3.mono e2.size)) | (go_at_call 59; (with_reducible refine (HK4.out _ e3).mono ?_); rintro e wk4 ⟨gg4, ll4, rfl, hc4, hbk4⟩; have e4 := e3.trans (hbk4.mono e3.size)) | (go_at_call 74; (with_reducible refine (HK5.out _ e4).mono ?_); rintro e wk5 ⟨gg5, ll5, rfl, hc5, hbk5⟩; have e5 := e4.trans (hbk5.mono e4.size)) | (go_at_call 75; (with_reducible refine (HK6.out _ e5).mono ?_); rintro e wk6 ⟨gg6, ll6, rfl, hc6, hbk6⟩; have e6 := e5.trans (hbk6.mono e5.size)) | (go_at_call 22; (with_reducible refine (HRM.out _ e6).mono ?_); rintro e wk7 ⟨rfl, hbk7⟩; have e7 := e6.trans (hbk7.mono e6.size)) | (go_at_call 60; (with_reducible refine (HK7.out _ e7).mono ?_); rintro e wk8 ⟨gg7, ll7, rfl, hc7, hbk8⟩; have e8 := e7.trans (hbk8.mono e7.size)) | (go_at_call 55; refine (implDecideRow_any [(gg0, ll0, k0), (gg1, ll1, k1), (gg2, ll2, k2), (gg3, ll3, k3), (gg4, ll4, k4), (gg5, ll5, k5), (gg6, ll6, k6), (gg7, ll7, k7)] [k0, k1, k2, k3, k4, k5, k6, k7] _ _ wk8 rfl (Nat.le_of_ble_eq_true rfl) (by have q0 := ((((((((hc0.later hbk1).later hbk2).later hbk3).later hbk4).later hbk5).later hbk6).later hbk7).later hbk8); have q1 := (((((((hc1.later hbk2).later hbk3).later hbk4).later hbk5).later hbk6).later hbk7).later hbk8); have q2 := ((((((hc2.later hbk3).later hbk4).later hbk5).later hbk6).later hbk7).later hbk8); have q3 := (((((hc3.later hbk4).later hbk5).later hbk6).later hbk7).later hbk8); have q4 := ((((hc4.later hbk5).later hbk6).later hbk7).later hbk8); have q5 := (((hc5.later hbk6).later hbk7).later hbk8); have q6 := ((hc6.later hbk7).later hbk8); have q7 := hc7; intro x hx; simp only [List.mem_cons, List.not_mem_nil, or_false] at hx; rcases hx with rfl | rfl | rfl | rfl | rfl | rfl | rfl | rfl; (exact q0); (exact q1); (exact q2); (exact q3); (exact q4); (exact q5); (exact q6); (exact q7))).mono ?_; rintro e wkD ⟨rfl, hbD⟩; have eD := e8.trans (hbD.mono e8.size)) | fail)
      all_goals go_wp2
      all_goals go_meet
      all_goals exact ⟨rfl, eD⟩
    case rest =>
      obtain ⟨rfl, hb⟩ := hcut
      obtain ⟨wkD, hVV⟩ : ∃ V, V = wc := ⟨_, rfl⟩
      subst hVV
      have zD := hb.size
      replace B0 := Lib.hid (B0.out.below hb (by omega))
      replace B1 := Lib.hid (B1.out.below hb (by omega))
      replace B2 := Lib.hid (B2.out.below hb (by omega))
      replace B3 := Lib.hid (B3.out.below hb (by omega))
      replace BF := Lib.hid (BF.out.below hb (by omega))
      replace BG := Lib.hid (BG.out.below hb (by omega))
      replace HM := Lib.hid (HM.out.below hb (by omega))
      replace HN := Lib.hid (HN.out.below hb (by omega))
      replace BH := Lib.hid (BH.out.below hb (by omega))
      replace HB : Hid (Below w.heap.size w wkD) := Lib.hid (HB.out.trans (hb.mono (by omega)))
      clear hb hD HS HRM HK0 HK1 HK2 HK3 HK4 HK5 HK6 HK7
      generalize firstC [k0, k1, k2, k3, k4, k5, k6, k7] = kk at HCO ⊢
      clear q1 q2 q3 q4 q5 q6 q7 q8 zF zG
      by_cases h0 : kk = 0
      rotate_left
      · have HD := Lib.hid (HCO.out.2.1 h0)
        have HD3 := Lib.hid HCO.out.1
        clear HCO B0 B1 BF BG BH HM HN HSZ HSB HSZ9 HSB9 HG HYZ HQ
        go_upto_region 5 with fail
        iterate 10 go_step
        obtain ⟨⟨r0, r1, r2, r3, r4, r5, r6, r7, r8, r9, r10⟩, g0, g1, g2, g3, g4, g5, g6, g7, g8, g9, g10⟩ := B2.out.eleven
        iterate 3 go_step
        obtain ⟨V1, hV1⟩ : ∃ V, V = (((((((((((wkD.setCell ⟨w.heap.size + 1 + 1, 0, none⟩ (.string ⟨#[]⟩)).setCell ⟨w.heap.size + 1 + 1, 1, none⟩ (.int .i64 0)).setCell ⟨w.heap.size + 1 + 1, 2, none⟩ (.int .i64 0)).setCell ⟨w.heap.size + 1 + 1, 3, none⟩ (.int .i64 0)).setCell ⟨w.heap.size + 1 + 1, 4, none⟩ (.int .i64 0)).setCell ⟨w.heap.size + 1 + 1, 5, none⟩ (.slice none 0 0)).setCell ⟨w.heap.size + 1 + 1, 6, none⟩ (.int .i64 0)).setCell ⟨w.heap.size + 1 + 1, 7, none⟩ (.int .i64 0)).setCell ⟨w.heap.size + 1 + 1, 8, none⟩ (.slice none 0 0)).setCell ⟨w.heap.size + 1 + 1, 9, none⟩ (.slice none 0 0)).setCell ⟨w.heap.size + 1 + 1, 10, none⟩ (.slice none 0 0)) := ⟨_, rfl⟩
        have hq1 : bk V1 (w.heap.size + 1 + 1) 29 [.string ⟨#[]⟩, .int .i64 0, .int .i64 0, .int .i64 0, .int .i64 0, .slice none 0 0, .int .i64 0, .int .i64 0, .slice none 0 0, .slice none 0 0, .slice none 0 0] := by rw [hV1]; exact bk0.set11 B2.out (.string ⟨#[]⟩) (.int .i64 0) (.int .i64 0) (.int .i64 0) (.int .i64 0) (.slice none 0 0) (.int .i64 0) (.int .i64 0) (.slice none 0 0) (.slice none 0 0) (.slice none 0 0)
        have hq2 : bk0 V1 (w.heap.size + 1 + 1 + 1) 29 := by rw [hV1]; exact bk.far11 B3.out (by omega) (.string ⟨#[]⟩) (.int .i64 0) (.int .i64 0) (.int .i64 0) (.int .i64 0) (.slice none 0 0) (.int .i64 0) (.int .i64 0) (.slice none 0 0) (.slice none 0 0) (.slice none 0 0)
        have ht1 : Turned (w.heap.size + 1 + 1) (w.heap.size + 1 + 1 + 1 + 1) wkD V1 := by rw [hV1]; exact turned11 (by omega) (by omega) (.string ⟨#[]⟩) (.int .i64 0) (.int .i64 0) (.int .i64 0) (.int .i64 0) (.slice none 0 0) (.int .i64 0) (.int .i64 0) (.slice none 0 0) (.slice none 0 0) (.slice none 0 0)
        rw [← hV1]
        clear hV1 B2 B3 r0 r1 r2 r3 r4 r5 r6 r7 r8 r9 r10 g0 g1 g2 g3 g4 g5 g6 g7 g8 g9 g10
        obtain ⟨⟨s0, s1, s2, s3, s4, s5, s6, s7, s8, s9, s10⟩, t0, t1, t2, t3, t4, t5, t6, t7, t8, t9, t10⟩ := hq2.eleven
        iterate 3 go_step
        obtain ⟨V2, hV2⟩ : ∃ V, V = (((((((((((V1.setCell ⟨w.heap.size + 1 + 1 + 1, 0, none⟩ (.string ⟨#[]⟩)).setCell ⟨w.heap.size + 1 + 1 + 1, 1, none⟩ (.int .i64 0)).setCell ⟨w.heap.size + 1 + 1 + 1, 2, none⟩ (.int .i64 0)).setCell ⟨w.heap.size + 1 + 1 + 1, 3, none⟩ (.int .i64 0)).setCell ⟨w.heap.size + 1 + 1 + 1, 4, none⟩ (.int .i64 0)).setCell ⟨w.heap.size + 1 + 1 + 1, 5, none⟩ (.slice none 0 0)).setCell ⟨w.heap.size + 1 + 1 + 1, 6, none⟩ (.int .i64 0)).setCell ⟨w.heap.size + 1 + 1 + 1, 7, none⟩ (.int .i64 0)).setCell ⟨w.heap.size + 1 + 1 + 1, 8, none⟩ (.slice none 0 0)).setCell ⟨w.heap.size + 1 + 1 + 1, 9, none⟩ (.slice none 0 0)).setCell ⟨w.heap.size + 1 + 1 + 1, 10, none⟩ (.slice none 0 0)) := ⟨_, rfl⟩
        have hq3 : bk V2 (w.heap.size + 1 + 1) 29 [.string ⟨#[]⟩, .int .i64 0, .int .i64 0, .int .i64 0, .int .i64 0, .slice none 0 0, .int .i64 0, .int .i64 0, .slice none 0 0, .slice none 0 0, .slice none 0 0] := by rw [hV2]; exact bk.far11 hq1 (by omega) (.string ⟨#[]⟩) (.int .i64 0) (.int .i64 0) (.int .i64 0) (.int .i64 0) (.slice none 0 0) (.int .i64 0) (.int .i64 0) (.slice none 0 0) (.slice none 0 0) (.slice none 0 0)
        have hq4 : bk V2 (w.heap.size + 1 + 1 + 1) 29 [.string ⟨#[]⟩, .int .i64 0, .int .i64 0, .int .i64 0, .int .i64 0, .slice none 0 0, .int .i64 0, .int .i64 0, .slice none 0 0, .slice none 0 0, .slice none 0 0] := by rw [hV2]; exact bk0.set11 hq2 (.string ⟨#[]⟩) (.int .i64 0) (.int .i64 0) (.int .i64 0) (.int .i64 0) (.slice none 0 0) (.int .i64 0) (.int .i64 0) (.slice none 0 0) (.slice none 0 0) (.slice none 0 0)
        have ht : Turned (w.heap.size + 1 + 1) (w.heap.size + 1 + 1 + 1 + 1) wkD V2 := by rw [hV2]; exact ht1.trans (turned11 (by omega) (by omega) (.string ⟨#[]⟩) (.int .i64 0) (.int .i64 0) (.int .i64 0) (.int .i64 0) (.slice none 0 0) (.int .i64 0) (.int .i64 0) (.slice none 0 0) (.slice none 0 0) (.slice none 0 0))
        rw [← hV2]
        clear hV2 hq1 hq2 ht1 s0 s1 s2 s3 s4 s5 s6 s7 s8 s9 s10 t0 t1 t2 t3 t4 t5 t6 t7 t8 t9 t10
        obtain ⟨⟨r0, r1, r2, r3, r4, r5, r6, r7, r8, r9, r10⟩, -⟩ := hq3.eleven
        obtain ⟨⟨s0, s1, s2, s3, s4, s5, s6, s7, s8, s9, s10⟩, -⟩ := hq4.eleven
        clear hq3 hq4
        go_wp2
        refine bodyPost_ret (v := .tuple #[.agg #[.string ⟨#[]⟩, .int .i64 0, .int .i64 0, .int .i64 0, .int .i64 0, .slice none 0 0, .int .i64 0, .int .i64 0, .slice none 0 0, .slice none 0 0, .slice none 0 0], .agg #[.string ⟨#[]⟩, .int .i64 0, .int .i64 0, .int .i64 0, .int .i64 0, .slice none 0 0, .int .i64 0, .int .i64 0, .slice none 0 0, .slice none 0 0, .slice none 0 0], .int .i64 kk]) (by simp [results, Tryz.results35, go_sem, r0, r1, r2, r3, r4, r5, r6, r7, r8, r9, r10, s0, s1, s2, s3, s4, s5, s6, s7, s8, s9, s10]) rfl ?_
        have hsz2 := ht.size
        rw [HD.out.1, HD.out.2, ← HD3.out]
        exact ⟨_, _, _, _, _, _, _, _, _, _, _, _, _, _, _, _, _, _, _, _, rfl, six_nil _ _ _ (by omega), HB.out.trans (ht.below (by omega) (by omega))⟩
      subst h0
      have HD := Lib.hid (HCO.out.2.2 rfl)
      have HD3 := Lib.hid HCO.out.1
      clear HCO B0 B1 HG
      obtain ⟨q1, q2, q3, q4, q5, q6, q7, q8, zF, zG⟩ := HQ.out
      simp only [setH, aId, aLim, aPos, aMost, aSum, aR, aS] at HD
      have HWO : Hid (∀ V, Below wkD.heap.size wkD V → _) := Lib.hid (fun V (hV : Below wkD.heap.size wkD V) => implWithoutHoldS_any l1 h1 _ _ _ _ (id2, lim2, pos2, most2, sum2, hs2, (sp2, hd2, cs2, ss2), sl2) s V HSZ.out (HM.out.below hV (by omega)) (Nat.le_trans (by omega) hV.size) (by omega))
      have HWI : Hid (∀ V, Below wkD.heap.size wkD V → _) := Lib.hid (fun V (hV : Below wkD.heap.size wkD V) => implWithHoldS_any l2 h2 _ _ _ _ (id3, lim3, pos3, most3, sum3, hs3, (sp3, hd3, cs3, ss3), sl3) (yi, yn, yu) V HSB9.out.hi HYZ.out HSZ9.out (HN.out.below hV (by omega)) (Nat.le_trans (by omega) hV.size) (by omega))
      simp only [aId, aLim, aPos, aMost, aSum, aH] at HWO HWI
      go_upto_region 6 with fail
      generalize dropL hs2 s = la at HWO HD
      generalize (putH hs3 (yi, yn, yu)).1 = lb at HWI HD
      have HS : Hid (∀ V, Below wkD.heap.size wkD V → V.cell? ⟨f, 0, none⟩ = some (.string id2) ∧ V.cell? ⟨f, 1, none⟩ = some (.int .i64 lim2) ∧ V.cell? ⟨f, 2, none⟩ = some (.int .i64 pos2) ∧ V.cell? ⟨f, 3, none⟩ = some (.int .i64 most2) ∧ V.cell? ⟨f, 4, none⟩ = some (.int .i64 sum2) ∧ V.cell? ⟨f, 5, none⟩ = some (.slice A1 hs2.length c1) ∧ V.cell? ⟨f, 6, none⟩ = some (.int .i64 sp2) ∧ V.cell? ⟨f, 7, none⟩ = some (.int .i64 hd2) ∧ V.cell? ⟨f, 8, none⟩ = some (.slice A2 cs2.length c2) ∧ V.cell? ⟨f, 9, none⟩ = some (.slice A3 ss2.length c3) ∧ V.cell? ⟨f, 10, none⟩ = some (.slice A4 sl2.length c4) ∧ V.cell? ⟨g, 0, none⟩ = some (.string id3) ∧ V.cell? ⟨g, 1, none⟩ = some (.int .i64 lim3) ∧ V.cell? ⟨g, 2, none⟩ = some (.int .i64 pos3) ∧ V.cell? ⟨g, 3, none⟩ = some (.int .i64 most3) ∧ V.cell? ⟨g, 4, none⟩ = some (.int .i64 sum3) ∧ V.cell? ⟨g, 5, none⟩ = some (.slice A5 hs3.length c5) ∧ V.cell? ⟨g, 6, none⟩ = some (.int .i64 sp3) ∧ V.cell? ⟨g, 7, none⟩ = some (.int .i64 hd3) ∧ V.cell? ⟨g, 8, none⟩ = some (.slice A6 cs3.length c6) ∧ V.cell? ⟨g, 9, none⟩ = some (.slice A7 ss3.length c7) ∧ V.cell? ⟨g, 10, none⟩ = some (.slice A8 sl3.length c8) ∧ V.cell? ⟨w21.heap.size, 0, none⟩ = some (.string yi) ∧ V.cell? ⟨w21.heap.size, 1, none⟩ = some (.int .i64 yn) ∧ V.cell? ⟨w21.heap.size, 2, none⟩ = some (.int .i64 yu)) := Lib.hid fun V hV => by
        obtain ⟨⟨p0_0, p0_1, p0_2, p0_3, p0_4, p0_5, p0_6, p0_7, p0_8, p0_9, p0_10⟩, -⟩ := (BF.out.below hV (by omega)).eleven
        obtain ⟨⟨p1_0, p1_1, p1_2, p1_3, p1_4, p1_5, p1_6, p1_7, p1_8, p1_9, p1_10⟩, -⟩ := (BG.out.below hV (by omega)).eleven
        exact ⟨p0_0, p0_1, p0_2, p0_3, p0_4, p0_5, p0_6, p0_7, p0_8, p0_9, p0_10, p1_0, p1_1, p1_2, p1_3, p1_4, p1_5, p1_6, p1_7, p1_8, p1_9, p1_10, ((BH.out.below hV (by omega)).cell 0), ((BH.out.below hV (by omega)).cell 1), ((BH.out.below hV (by omega)).cell 2)⟩
      have hD : Below wkD.heap.size wkD wkD.drew := (Below.refl _ _).drew
      have HS1 : Hid (∀ V (a0 a1 a2 a3 a4 a5 a6 a7 a8 a9 a10 : Value), Below wkD.heap.size wkD V → (set11 V (w.heap.size + 1 + 1) a0 a1 a2 a3 a4 a5 a6 a7 a8 a9 a10).cell? ⟨f, 0, none⟩ = some (.string id2) ∧ (set11 V (w.heap.size + 1 + 1) a0 a1 a2 a3 a4 a5 a6 a7 a8 a9 a10).cell? ⟨f, 1, none⟩ = some (.int .i64 lim2) ∧ (set11 V (w.heap.size + 1 + 1) a0 a1 a2 a3 a4 a5 a6 a7 a8 a9 a10).cell? ⟨f, 2, none⟩ = some (.int .i64 pos2) ∧ (set11 V (w.heap.size + 1 + 1) a0 a1 a2 a3 a4 a5 a6 a7 a8 a9 a10).cell? ⟨f, 3, none⟩ = some (.int .i64 most2) ∧ (set11 V (w.heap.size + 1 + 1) a0 a1 a2 a3 a4 a5 a6 a7 a8 a9 a10).cell? ⟨f, 4, none⟩ = some (.int .i64 sum2) ∧ (set11 V (w.heap.size + 1 + 1) a0 a1 a2 a3 a4 a5 a6 a7 a8 a9 a10).cell? ⟨f, 5, none⟩ = some (.slice A1 hs2.length c1) ∧ (set11 V (w.heap.size + 1 + 1) a0 a1 a2 a3 a4 a5 a6 a7 a8 a9 a10).cell? ⟨f, 6, none⟩ = some (.int .i64 sp2) ∧ (set11 V (w.heap.size + 1 + 1) a0 a1 a2 a3 a4 a5 a6 a7 a8 a9 a10).cell? ⟨f, 7, none⟩ = some (.int .i64 hd2) ∧ (set11 V (w.heap.size + 1 + 1) a0 a1 a2 a3 a4 a5 a6 a7 a8 a9 a10).cell? ⟨f, 8, none⟩ = some (.slice A2 cs2.length c2) ∧ (set11 V (w.heap.size + 1 + 1) a0 a1 a2 a3 a4 a5 a6 a7 a8 a9 a10).cell? ⟨f, 9, none⟩ = some (.slice A3 ss2.length c3) ∧ (set11 V (w.heap.size + 1 + 1) a0 a1 a2 a3 a4 a5 a6 a7 a8 a9 a10).cell? ⟨f, 10, none⟩ = some (.slice A4 sl2.length c4) ∧ (set11 V (w.heap.size + 1 + 1) a0 a1 a2 a3 a4 a5 a6 a7 a8 a9 a10).cell? ⟨g, 0, none⟩ = some (.string id3) ∧ (set11 V (w.heap.size + 1 + 1) a0 a1 a2 a3 a4 a5 a6 a7 a8 a9 a10).cell? ⟨g, 1, none⟩ = some (.int .i64 lim3) ∧ (set11 V (w.heap.size + 1 + 1) a0 a1 a2 a3 a4 a5 a6 a7 a8 a9 a10).cell? ⟨g, 2, none⟩ = some (.int .i64 pos3) ∧ (set11 V (w.heap.size + 1 + 1) a0 a1 a2 a3 a4 a5 a6 a7 a8 a9 a10).cell? ⟨g, 3, none⟩ = some (.int .i64 most3) ∧ (set11 V (w.heap.size + 1 + 1) a0 a1 a2 a3 a4 a5 a6 a7 a8 a9 a10).cell? ⟨g, 4, none⟩ = some (.int .i64 sum3) ∧ (set11 V (w.heap.size + 1 + 1) a0 a1 a2 a3 a4 a5 a6 a7 a8 a9 a10).cell? ⟨g, 5, none⟩ = some (.slice A5 hs3.length c5) ∧ (set11 V (w.heap.size + 1 + 1) a0 a1 a2 a3 a4 a5 a6 a7 a8 a9 a10).cell? ⟨g, 6, none⟩ = some (.int .i64 sp3) ∧ (set11 V (w.heap.size + 1 + 1) a0 a1 a2 a3 a4 a5 a6 a7 a8 a9 a10).cell? ⟨g, 7, none⟩ = some (.int .i64 hd3) ∧ (set11 V (w.heap.size + 1 + 1) a0 a1 a2 a3 a4 a5 a6 a7 a8 a9 a10).cell? ⟨g, 8, none⟩ = some (.slice A6 cs3.length c6) ∧ (set11 V (w.heap.size + 1 + 1) a0 a1 a2 a3 a4 a5 a6 a7 a8 a9 a10).cell? ⟨g, 9, none⟩ = some (.slice A7 ss3.length c7) ∧ (set11 V (w.heap.size + 1 + 1) a0 a1 a2 a3 a4 a5 a6 a7 a8 a9 a10).cell? ⟨g, 10, none⟩ = some (.slice A8 sl3.length c8) ∧ (set11 V (w.heap.size + 1 + 1) a0 a1 a2 a3 a4 a5 a6 a7 a8 a9 a10).cell? ⟨w21.heap.size, 0, none⟩ = some (.string yi) ∧ (set11 V (w.heap.size + 1 + 1) a0 a1 a2 a3 a4 a5 a6 a7 a8 a9 a10).cell? ⟨w21.heap.size, 1, none⟩ = some (.int .i64 yn) ∧ (set11 V (w.heap.size + 1 + 1) a0 a1 a2 a3 a4 a5 a6 a7 a8 a9 a10).cell? ⟨w21.heap.size, 2, none⟩ = some (.int .i64 yu)) := Lib.hid fun V a0 a1 a2 a3 a4 a5 a6 a7 a8 a9 a10 hV => by
        have e1 := ((BF.out.below hV (by omega)).far11 (b := w.heap.size + 1 + 1) (by omega) a0 a1 a2 a3 a4 a5 a6 a7 a8 a9 a10)
        have e2 := ((BG.out.below hV (by omega)).far11 (b := w.heap.size + 1 + 1) (by omega) a0 a1 a2 a3 a4 a5 a6 a7 a8 a9 a10)
        have e3 := ((BH.out.below hV (by omega)).far11 (b := w.heap.size + 1 + 1) (by omega) a0 a1 a2 a3 a4 a5 a6 a7 a8 a9 a10)
        obtain ⟨⟨p0, p1, p2, p3, p4, p5, p6, p7, p8, p9, p10⟩, -⟩ := e1.eleven
        obtain ⟨⟨q0, q1, q2, q3, q4, q5, q6, q7, q8, q9, q10⟩, -⟩ := e2.eleven
        exact ⟨p0, p1, p2, p3, p4, p5, p6, p7, p8, p9, p10, q0, q1, q2, q3, q4, q5, q6, q7, q8, q9, q10, e3.cell 0, e3.cell 1, e3.cell 2⟩
      have HS2 : Hid (∀ V (a0 a1 a2 a3 a4 a5 a6 a7 a8 a9 a10 b0 b1 b2 b3 b4 b5 b6 b7 b8 b9 b10 : Value), Below wkD.heap.size wkD V → (set11 (set11 V (w.heap.size + 1 + 1) a0 a1 a2 a3 a4 a5 a6 a7 a8 a9 a10) (w.heap.size + 1 + 1 + 1) b0 b1 b2 b3 b4 b5 b6 b7 b8 b9 b10).cell? ⟨f, 0, none⟩ = some (.string id2) ∧ (set11 (set11 V (w.heap.size + 1 + 1) a0 a1 a2 a3 a4 a5 a6 a7 a8 a9 a10) (w.heap.size + 1 + 1 + 1) b0 b1 b2 b3 b4 b5 b6 b7 b8 b9 b10).cell? ⟨f, 1, none⟩ = some (.int .i64 lim2) ∧ (set11 (set11 V (w.heap.size + 1 + 1) a0 a1 a2 a3 a4 a5 a6 a7 a8 a9 a10) (w.heap.size + 1 + 1 + 1) b0 b1 b2 b3 b4 b5 b6 b7 b8 b9 b10).cell? ⟨f, 2, none⟩ = some (.int .i64 pos2) ∧ (set11 (set11 V (w.heap.size + 1 + 1) a0 a1 a2 a3 a4 a5 a6 a7 a8 a9 a10) (w.heap.size + 1 + 1 + 1) b0 b1 b2 b3 b4 b5 b6 b7 b8 b9 b10).cell? ⟨f, 3, none⟩ = some (.int .i64 most2) ∧ (set11 (set11 V (w.heap.size + 1 + 1) a0 a1 a2 a3 a4 a5 a6 a7 a8 a9 a10) (w.heap.size + 1 + 1 + 1) b0 b1 b2 b3 b4 b5 b6 b7 b8 b9 b10).cell? ⟨f, 4, none⟩ = some (.int .i64 sum2) ∧ (set11 (set11 V (w.heap.size + 1 + 1) a0 a1 a2 a3 a4 a5 a6 a7 a8 a9 a10) (w.heap.size + 1 + 1 + 1) b0 b1 b2 b3 b4 b5 b6 b7 b8 b9 b10).cell? ⟨f, 5, none⟩ = some (.slice A1 hs2.length c1) ∧ (set11 (set11 V (w.heap.size + 1 + 1) a0 a1 a2 a3 a4 a5 a6 a7 a8 a9 a10) (w.heap.size + 1 + 1 + 1) b0 b1 b2 b3 b4 b5 b6 b7 b8 b9 b10).cell? ⟨f, 6, none⟩ = some (.int .i64 sp2) ∧ (set11 (set11 V (w.heap.size + 1 + 1) a0 a1 a2 a3 a4 a5 a6 a7 a8 a9 a10) (w.heap.size + 1 + 1 + 1) b0 b1 b2 b3 b4 b5 b6 b7 b8 b9 b10).cell? ⟨f, 7, none⟩ = some (.int .i64 hd2) ∧ (set11 (set11 V (w.heap.size + 1 + 1) a0 a1 a2 a3 a4 a5 a6 a7 a8 a9 a10) (w.heap.size + 1 + 1 + 1) b0 b1 b2 b3 b4 b5 b6 b7 b8 b9 b10).cell? ⟨f, 8, none⟩ = some (.slice A2 cs2.length c2) ∧ (set11 (set11 V (w.heap.size + 1 + 1) a0 a1 a2 a3 a4 a5 a6 a7 a8 a9 a10) (w.heap.size + 1 + 1 + 1) b0 b1 b2 b3 b4 b5 b6 b7 b8 b9 b10).cell? ⟨f, 9, none⟩ = some (.slice A3 ss2.length c3) ∧ (set11 (set11 V (w.heap.size + 1 + 1) a0 a1 a2 a3 a4 a5 a6 a7 a8 a9 a10) (w.heap.size + 1 + 1 + 1) b0 b1 b2 b3 b4 b5 b6 b7 b8 b9 b10).cell? ⟨f, 10, none⟩ = some (.slice A4 sl2.length c4) ∧ (set11 (set11 V (w.heap.size + 1 + 1) a0 a1 a2 a3 a4 a5 a6 a7 a8 a9 a10) (w.heap.size + 1 + 1 + 1) b0 b1 b2 b3 b4 b5 b6 b7 b8 b9 b10).cell? ⟨g, 0, none⟩ = some (.string id3) ∧ (set11 (set11 V (w.heap.size + 1 + 1) a0 a1 a2 a3 a4 a5 a6 a7 a8 a9 a10) (w.heap.size + 1 + 1 + 1) b0 b1 b2 b3 b4 b5 b6 b7 b8 b9 b10).cell? ⟨g, 1, none⟩ = some (.int .i64 lim3) ∧ (set11 (set11 V (w.heap.size + 1 + 1) a0 a1 a2 a3 a4 a5 a6 a7 a8 a9 a10) (w.heap.size + 1 + 1 + 1) b0 b1 b2 b3 b4 b5 b6 b7 b8 b9 b10).cell? ⟨g, 2, none⟩ = some (.int .i64 pos3) ∧ (set11 (set11 V (w.heap.size + 1 + 1) a0 a1 a2 a3 a4 a5 a6 a7 a8 a9 a10) (w.heap.size + 1 + 1 + 1) b0 b1 b2 b3 b4 b5 b6 b7 b8 b9 b10).cell? ⟨g, 3, none⟩ = some (.int .i64 most3) ∧ (set11 (set11 V (w.heap.size + 1 + 1) a0 a1 a2 a3 a4 a5 a6 a7 a8 a9 a10) (w.heap.size + 1 + 1 + 1) b0 b1 b2 b3 b4 b5 b6 b7 b8 b9 b10).cell? ⟨g, 4, none⟩ = some (.int .i64 sum3) ∧ (set11 (set11 V (w.heap.size + 1 + 1) a0 a1 a2 a3 a4 a5 a6 a7 a8 a9 a10) (w.heap.size + 1 + 1 + 1) b0 b1 b2 b3 b4 b5 b6 b7 b8 b9 b10).cell? ⟨g, 5, none⟩ = some (.slice A5 hs3.length c5) ∧ (set11 (set11 V (w.heap.size + 1 + 1) a0 a1 a2 a3 a4 a5 a6 a7 a8 a9 a10) (w.heap.size + 1 + 1 + 1) b0 b1 b2 b3 b4 b5 b6 b7 b8 b9 b10).cell? ⟨g, 6, none⟩ = some (.int .i64 sp3) ∧ (set11 (set11 V (w.heap.size + 1 + 1) a0 a1 a2 a3 a4 a5 a6 a7 a8 a9 a10) (w.heap.size + 1 + 1 + 1) b0 b1 b2 b3 b4 b5 b6 b7 b8 b9 b10).cell? ⟨g, 7, none⟩ = some (.int .i64 hd3) ∧ (set11 (set11 V (w.heap.size + 1 + 1) a0 a1 a2 a3 a4 a5 a6 a7 a8 a9 a10) (w.heap.size + 1 + 1 + 1) b0 b1 b2 b3 b4 b5 b6 b7 b8 b9 b10).cell? ⟨g, 8, none⟩ = some (.slice A6 cs3.length c6) ∧ (set11 (set11 V (w.heap.size + 1 + 1) a0 a1 a2 a3 a4 a5 a6 a7 a8 a9 a10) (w.heap.size + 1 + 1 + 1) b0 b1 b2 b3 b4 b5 b6 b7 b8 b9 b10).cell? ⟨g, 9, none⟩ = some (.slice A7 ss3.length c7) ∧ (set11 (set11 V (w.heap.size + 1 + 1) a0 a1 a2 a3 a4 a5 a6 a7 a8 a9 a10) (w.heap.size + 1 + 1 + 1) b0 b1 b2 b3 b4 b5 b6 b7 b8 b9 b10).cell? ⟨g, 10, none⟩ = some (.slice A8 sl3.length c8) ∧ (set11 (set11 V (w.heap.size + 1 + 1) a0 a1 a2 a3 a4 a5 a6 a7 a8 a9 a10) (w.heap.size + 1 + 1 + 1) b0 b1 b2 b3 b4 b5 b6 b7 b8 b9 b10).cell? ⟨w21.heap.size, 0, none⟩ = some (.string yi) ∧ (set11 (set11 V (w.heap.size + 1 + 1) a0 a1 a2 a3 a4 a5 a6 a7 a8 a9 a10) (w.heap.size + 1 + 1 + 1) b0 b1 b2 b3 b4 b5 b6 b7 b8 b9 b10).cell? ⟨w21.heap.size, 1, none⟩ = some (.int .i64 yn) ∧ (set11 (set11 V (w.heap.size + 1 + 1) a0 a1 a2 a3 a4 a5 a6 a7 a8 a9 a10) (w.heap.size + 1 + 1 + 1) b0 b1 b2 b3 b4 b5 b6 b7 b8 b9 b10).cell? ⟨w21.heap.size, 2, none⟩ = some (.int .i64 yu)) := Lib.hid fun V a0 a1 a2 a3 a4 a5 a6 a7 a8 a9 a10 b0 b1 b2 b3 b4 b5 b6 b7 b8 b9 b10 hV => by
        have e1 := (((BF.out.below hV (by omega)).far11 (b := w.heap.size + 1 + 1) (by omega) a0 a1 a2 a3 a4 a5 a6 a7 a8 a9 a10).far11 (b := w.heap.size + 1 + 1 + 1) (by omega) b0 b1 b2 b3 b4 b5 b6 b7 b8 b9 b10)
        have e2 := (((BG.out.below hV (by omega)).far11 (b := w.heap.size + 1 + 1) (by omega) a0 a1 a2 a3 a4 a5 a6 a7 a8 a9 a10).far11 (b := w.heap.size + 1 + 1 + 1) (by omega) b0 b1 b2 b3 b4 b5 b6 b7 b8 b9 b10)
        have e3 := (((BH.out.below hV (by omega)).far11 (b := w.heap.size + 1 + 1) (by omega) a0 a1 a2 a3 a4 a5 a6 a7 a8 a9 a10).far11 (b := w.heap.size + 1 + 1 + 1) (by omega) b0 b1 b2 b3 b4 b5 b6 b7 b8 b9 b10)
        obtain ⟨⟨p0, p1, p2, p3, p4, p5, p6, p7, p8, p9, p10⟩, -⟩ := e1.eleven
        obtain ⟨⟨q0, q1, q2, q3, q4, q5, q6, q7, q8, q9, q10⟩, -⟩ := e2.eleven
        exact ⟨p0, p1, p2, p3, p4, p5, p6, p7, p8, p9, p10, q0, q1, q2, q3, q4, q5, q6, q7, q8, q9, q10, e3.cell 0, e3.cell 1, e3.cell 2⟩
      go_region_held3 (fun V => V.cell? ⟨f, 0, none⟩ = some (.string id2) ∧ V.cell? ⟨f, 1, none⟩ = some (.int .i64 lim2) ∧ V.cell? ⟨f, 2, none⟩ = some (.int .i64 pos2) ∧ V.cell? ⟨f, 3, none⟩ = some (.int .i64 most2) ∧ V.cell? ⟨f, 4, none⟩ = some (.int .i64 sum2) ∧ V.cell? ⟨f, 5, none⟩ = some (.slice A1 hs2.length c1) ∧ V.cell? ⟨f, 6, none⟩ = some (.int .i64 sp2) ∧ V.cell? ⟨f, 7, none⟩ = some (.int .i64 hd2) ∧ V.cell? ⟨f, 8, none⟩ = some (.slice A2 cs2.length c2) ∧ V.cell? ⟨f, 9, none⟩ = some (.slice A3 ss2.length c3) ∧ V.cell? ⟨f, 10, none⟩ = some (.slice A4 sl2.length c4) ∧ V.cell? ⟨g, 0, none⟩ = some (.string id3) ∧ V.cell? ⟨g, 1, none⟩ = some (.int .i64 lim3) ∧ V.cell? ⟨g, 2, none⟩ = some (.int .i64 pos3) ∧ V.cell? ⟨g, 3, none⟩ = some (.int .i64 most3) ∧ V.cell? ⟨g, 4, none⟩ = some (.int .i64 sum3) ∧ V.cell? ⟨g, 5, none⟩ = some (.slice A5 hs3.length c5) ∧ V.cell? ⟨g, 6, none⟩ = some (.int .i64 sp3) ∧ V.cell? ⟨g, 7, none⟩ = some (.int .i64 hd3) ∧ V.cell? ⟨g, 8, none⟩ = some (.slice A6 cs3.length c6) ∧ V.cell? ⟨g, 9, none⟩ = some (.slice A7 ss3.length c7) ∧ V.cell? ⟨g, 10, none⟩ = some (.slice A8 sl3.length c8) ∧ V.cell? ⟨w21.heap.size, 0, none⟩ = some (.string yi) ∧ V.cell? ⟨w21.heap.size, 1, none⟩ = some (.int .i64 yn) ∧ V.cell? ⟨w21.heap.size, 2, none⟩ = some (.int .i64 yu)) (first | (with_reducible exact HS.out _ (by with_reducible assumption)) | (with_reducible exact HS1.out _ _ _ _ _ _ _ _ _ _ _ _ (by with_reducible assumption)) | (with_reducible exact HS2.out _ _ _ _ _ _ _ _ _ _ _ _ _ _ _ _ _ _ _ _ _ _ _ (by with_reducible assumption))) (first | (go_at_call 61; (with_reducible refine (HWO.out _ hD).mono ?_); rintro e wA ⟨u, rfl, hu1, hbA⟩; obtain ⟨AN, cN, rfl, -⟩ := Rep.slice_form hu1.rd; have eA := hD.trans (hbA.mono hD.size)) | (go_at_call 62; (with_reducible refine (HWI.out _ eA).mono ?_); rintro e wB ⟨u, rfl, hu2, hbB⟩; obtain ⟨AM, cM, rfl, -⟩ := Rep.slice_form hu2.rd; have eB := eA.trans (hbB.mono eA.size); obtain ⟨⟨r0, r1, r2, r3, r4, r5, r6, r7, r8, r9, r10⟩, g0, g1, g2, g3, g4, g5, g6, g7, g8, g9, g10⟩ := (B2.out.below eB (by omega)).eleven; obtain ⟨⟨s0, s1, s2, s3, s4, s5, s6, s7, s8, s9, s10⟩, t0, t1, t2, t3, t4, t5, t6, t7, t8, t9, t10⟩ := (B3.out.below eB (by omega)).eleven) | fail)
      obtain ⟨V2, hV2⟩ : ∃ V, V = ((((((((((((((((((((((wB.setCell ⟨w.heap.size + 1 + 1, 0, none⟩ (.string id2)).setCell ⟨w.heap.size + 1 + 1, 1, none⟩ (.int .i64 lim2)).setCell ⟨w.heap.size + 1 + 1, 2, none⟩ (.int .i64 pos2)).setCell ⟨w.heap.size + 1 + 1, 3, none⟩ (.int .i64 most2)).setCell ⟨w.heap.size + 1 + 1, 4, none⟩ (.int .i64 sum2)).setCell ⟨w.heap.size + 1 + 1, 5, none⟩ (.slice AN la.length cN)).setCell ⟨w.heap.size + 1 + 1, 6, none⟩ (.int .i64 sp2)).setCell ⟨w.heap.size + 1 + 1, 7, none⟩ (.int .i64 hd2)).setCell ⟨w.heap.size + 1 + 1, 8, none⟩ (.slice A2 cs2.length c2)).setCell ⟨w.heap.size + 1 + 1, 9, none⟩ (.slice A3 ss2.length c3)).setCell ⟨w.heap.size + 1 + 1, 10, none⟩ (.slice A4 sl2.length c4)).setCell ⟨w.heap.size + 1 + 1 + 1, 0, none⟩ (.string id3)).setCell ⟨w.heap.size + 1 + 1 + 1, 1, none⟩ (.int .i64 lim3)).setCell ⟨w.heap.size + 1 + 1 + 1, 2, none⟩ (.int .i64 pos3)).setCell ⟨w.heap.size + 1 + 1 + 1, 3, none⟩ (.int .i64 most3)).setCell ⟨w.heap.size + 1 + 1 + 1, 4, none⟩ (.int .i64 sum3)).setCell ⟨w.heap.size + 1 + 1 + 1, 5, none⟩ (.slice AM lb.length cM)).setCell ⟨w.heap.size + 1 + 1 + 1, 6, none⟩ (.int .i64 sp3)).setCell ⟨w.heap.size + 1 + 1 + 1, 7, none⟩ (.int .i64 hd3)).setCell ⟨w.heap.size + 1 + 1 + 1, 8, none⟩ (.slice A6 cs3.length c6)).setCell ⟨w.heap.size + 1 + 1 + 1, 9, none⟩ (.slice A7 ss3.length c7)).setCell ⟨w.heap.size + 1 + 1 + 1, 10, none⟩ (.slice A8 sl3.length c8)) := ⟨_, rfl⟩
      have hq3 : bk V2 (w.heap.size + 1 + 1) 29 [.string id2, .int .i64 lim2, .int .i64 pos2, .int .i64 most2, .int .i64 sum2, .slice AN la.length cN, .int .i64 sp2, .int .i64 hd2, .slice A2 cs2.length c2, .slice A3 ss2.length c3, .slice A4 sl2.length c4] := by rw [hV2]; exact bk.far11 (bk0.set11 (B2.out.below eB (by omega)) (.string id2) (.int .i64 lim2) (.int .i64 pos2) (.int .i64 most2) (.int .i64 sum2) (.slice AN la.length cN) (.int .i64 sp2) (.int .i64 hd2) (.slice A2 cs2.length c2) (.slice A3 ss2.length c3) (.slice A4 sl2.length c4)) (by omega) (.string id3) (.int .i64 lim3) (.int .i64 pos3) (.int .i64 most3) (.int .i64 sum3) (.slice AM lb.length cM) (.int .i64 sp3) (.int .i64 hd3) (.slice A6 cs3.length c6) (.slice A7 ss3.length c7) (.slice A8 sl3.length c8)
      have hq4 : bk V2 (w.heap.size + 1 + 1 + 1) 29 [.string id3, .int .i64 lim3, .int .i64 pos3, .int .i64 most3, .int .i64 sum3, .slice AM lb.length cM, .int .i64 sp3, .int .i64 hd3, .slice A6 cs3.length c6, .slice A7 ss3.length c7, .slice A8 sl3.length c8] := by rw [hV2]; exact bk0.set11 (bk.far11 (B3.out.below eB (by omega)) (by omega) (.string id2) (.int .i64 lim2) (.int .i64 pos2) (.int .i64 most2) (.int .i64 sum2) (.slice AN la.length cN) (.int .i64 sp2) (.int .i64 hd2) (.slice A2 cs2.length c2) (.slice A3 ss2.length c3) (.slice A4 sl2.length c4)) (.string id3) (.int .i64 lim3) (.int .i64 pos3) (.int .i64 most3) (.int .i64 sum3) (.slice AM lb.length cM) (.int .i64 sp3) (.int .i64 hd3) (.slice A6 cs3.length c6) (.slice A7 ss3.length c7) (.slice A8 sl3.length c8)
      have zA := hbA.size
      have zB := hbB.size
      have zE := eA.size
      have ht : Turned (w.heap.size + 1 + 1) (w.heap.size + 1 + 1 + 1 + 1) wB V2 := by rw [hV2]; exact (turned11 (by omega) (by omega) (.string id2) (.int .i64 lim2) (.int .i64 pos2) (.int .i64 most2) (.int .i64 sum2) (.slice AN la.length cN) (.int .i64 sp2) (.int .i64 hd2) (.slice A2 cs2.length c2) (.slice A3 ss2.length c3) (.slice A4 sl2.length c4)).trans (turned11 (by omega) (by omega) (.string id3) (.int .i64 lim3) (.int .i64 pos3) (.int .i64 most3) (.int .i64 sum3) (.slice AM lb.length cM) (.int .i64 sp3) (.int .i64 hd3) (.slice A6 cs3.length c6) (.slice A7 ss3.length c7) (.slice A8 sl3.length c8))
      rw [← hV2]
      clear hV2 B2 B3 HS HS1 HS2 HWO HWI BF BG BH hD r0 r1 r2 r3 r4 r5 r6 r7 r8 r9 r10 g0 g1 g2 g3 g4 g5 g6 g7 g8 g9 g10 s0 s1 s2 s3 s4 s5 s6 s7 s8 s9 s10 t0 t1 t2 t3 t4 t5 t6 t7 t8 t9 t10
      obtain ⟨⟨r0, r1, r2, r3, r4, r5, r6, r7, r8, r9, r10⟩, -⟩ := hq3.eleven
      obtain ⟨⟨s0, s1, s2, s3, s4, s5, s6, s7, s8, s9, s10⟩, -⟩ := hq4.eleven
      clear hq3 hq4
      have hsz2 := ht.size
      have hh1 := hu1.below hbB (Nat.le_refl _)
      have zdr : wkD.drew.heap.size = wkD.heap.size := rfl
      obtain ⟨i1, j1, i2, j2, i3, j3, i4, j4, i5, j5, i6, j6, hsix⟩ := six_of (lo := w.heap.size) (hi := V2.heap.size) ((HM.out.below eB (by omega)).turned ht (.inr (by omega)) (by omega)) ((HN.out.below eB (by omega)).turned ht (.inr (by omega)) (by omega)) (hh1.turned ht (.inr (by omega)) (by omega)) (hu2.turned ht (.inr (by omega)) (by omega)) (by omega)
      have HSX := Lib.hid hsix
      have HBL : Hid (Below w.heap.size w V2) := Lib.hid ((HB.out.trans (eB.mono (by omega))).trans (ht.below (by omega) (by omega)))
      clear zdr
      clear hsix hu1 hu2 hh1 ht hbA hbB eA eB HM HN HB HSZ HSB HSZ9 HSB9 HYZ HQ q1 q2 q3 q4 q5 q6 q7 q8 zF zG zA zB zE hsz2
      go_wp2
      refine bodyPost_ret (v := .tuple #[.agg #[.string id2, .int .i64 lim2, .int .i64 pos2, .int .i64 most2, .int .i64 sum2, .slice AN la.length cN, .int .i64 sp2, .int .i64 hd2, .slice A2 cs2.length c2, .slice A3 ss2.length c3, .slice A4 sl2.length c4], .agg #[.string id3, .int .i64 lim3, .int .i64 pos3, .int .i64 most3, .int .i64 sum3, .slice AM lb.length cM, .int .i64 sp3, .int .i64 hd3, .slice A6 cs3.length c6, .slice A7 ss3.length c7, .slice A8 sl3.length c8], .int .i64 0]) (by simp [results, Tryz.results35, go_sem, r0, r1, r2, r3, r4, r5, r6, r7, r8, r9, r10, s0, s1, s2, s3, s4, s5, s6, s7, s8, s9, s10]) rfl ?_
      rw [HD.out.1, HD.out.2, ← HD3.out]
      exact ⟨_, _, _, _, _, _, _, _, _, _, _, _, _, _, _, _, _, _, _, _, rfl, HSX.out, HBL.out⟩
end Go.Proofs.YtnmijppppcgobaaGreatDoor
set_option linter.unusedVariables false
namespace Go.Proofs.YtnmijppppcgobaaGreatDoor
open Go.ChangeShapes Go.WideShapes Go.ChangeAt Go.RowKit

set_option maxRecDepth 100000 in
theorem implMoveR_any (hi : Nat) (vh vc vs vl : Value) (a : AcctD) (vh9 vc9 vs9 vl9 : Value) (b : AcctD) (s : ByteArray) (now : Int) (w : World) (hg : Handle w) (hz : acctSmall 1048576 a) (hbig : acctBig a) (h : AcctR.rd hi w (aCells a vh vc vs vl) a) (hz9 : acctSmall 1048576 b) (hbig9 : acctBig b) (h9 : AcctR.rd hi w (aCells b vh9 vc9 vs9 vl9) b) (hh : hi ≤ w.heap.size) (hsz : s.size ≤ maxLen) :
    Calls Tryz.prog 35 #[.agg #[.string (aId a), .int .i64 (aLim a), .int .i64 (aPos a), .int .i64 (aMost a), .int .i64 (aSum a), vh, .int .i64 (aR a).1, .int .i64 (aR a).2.1, vc, vs, vl], .agg #[.string (aId b), .int .i64 (aLim b), .int .i64 (aPos b), .int .i64 (aMost b), .int .i64 (aSum b), vh9, .int .i64 (aR b).1, .int .i64 (aR b).2.1, vc9, vs9, vl9], .string s, .int .i64 now] w (acctRes2 (moveL a b s now).1 (moveL a b s now).2.1 (moveL a b s now).2.2 w) :=
  (implMove_any hi vh vc vs vl a vh9 vc9 vs9 vl9 b s now w hg hz hbig h hz9 hbig9 h9 hh hsz).mono fun _ _ h => h.res
end Go.Proofs.YtnmijppppcgobaaGreatDoor
