/- append of a whole slice of structs; the reference's copy of an account; no conditions. -/
import Derived.Test.YtnmijppppcgobaaGreatDoorMrg2
import Derived.Test.YtnmijppppcgobaaGreatDoorMrg3
import Derived.Deep.DeepCutAuto
import Derived.StillTailTactics
import Derived.BigQuiet
import Derived.Deep.RegionHeld3
import Derived.Test.YtnmijppppcgobaaGreatDoorMrg1
set_option linter.unusedVariables false
namespace Go.Proofs.YtnmijppppcgobaaGreatDoor
open Go.ChangeShapes Go.WideShapes Go.ChangeAt Go.RowKit

set_option maxRecDepth 100000 in
set_option maxHeartbeats 4000000 in
theorem specAcctCopy_any (hi : Nat) (vh vc vs vl : Value) (a : AcctD) (w : World) (hz : acctSmall 1048576 a) (h : AcctR.rd hi w (aCells a vh vc vs vl) a) (hh : hi ≤ w.heap.size) :
    Calls Tryz.prog 80 #[.agg #[.string (aId a), .int .i64 (aLim a), .int .i64 (aPos a), .int .i64 (aMost a), .int .i64 (aSum a), vh, .int .i64 (aR a).1, .int .i64 (aR a).2.1, vc, vs, vl]] w (acctOne a w) := by
  obtain ⟨vh', vc', vs', vl', hcs, r1, r2, r3, r4⟩ := acct_rd h
  simp only [aCells, List.cons.injEq, and_true, true_and] at hcs
  obtain ⟨rfl, rfl, rfl, rfl⟩ := hcs
  clear h
  obtain ⟨z1, z2, z3, z4, z5⟩ := hz
  obtain ⟨id, lim, pos, most, sum, hs, ⟨sp, hd, cs, ss⟩, sl⟩ := a
  simp only [aId, aLim, aPos, aMost, aSum, aH, aS] at r1 r2 r3 r4 z1 z2 z3 z4 z5 ⊢
  obtain ⟨AH, cH, hv0, -, hr1⟩ := holds_rd r1
  subst hv0
  obtain ⟨AC, cC, rfl, -⟩ := r2.form
  obtain ⟨AS, cS, rfl, -⟩ := r3.form
  obtain ⟨AL, cL, rfl, -⟩ := Rep.slice_form r4
  have HSR : Hid (∀ V, Below w.heap.size w V → ∀ (j : Nat) (y : HoldD), hs[j]? = some y → ∃ b off, AH = some ⟨b, off, none⟩ ∧ atL V b (off + j * 3) (hCells y)) := Lib.hid fun V hV j y hy => by
    obtain ⟨b, off, e, hb, q0, q1, q2⟩ := hr1 j y hy
    refine ⟨b, off, e, fun t u hu => ?_⟩
    rw [hV.cell (p := ⟨b, _, none⟩) (show b < w.heap.size by omega)]
    match t, hu with
    | 0, hu => cases hu; exact q0
    | 1, hu => cases hu; exact q1
    | 2, hu => cases hu; exact q2
    | n + 3, hu => simp [hCells] at hu
  have HT2 := Lib.hid (fun W (hW : Below w.heap.size w W) => specCopy_any hi _ _ (sp, hd, cs, ss) W (r2.below hW hh) (r3.below hW hh) (Nat.le_trans hh hW.size) z2 z3)
  have HT3 := Lib.hid (fun W (hW : Below w.heap.size w W) => specCopySlots_any hi _ sl W (by omega) z5 (Rep.below (R := SlotsR) r4 hW hh) (Nat.le_trans hh hW.size))
  clear r1 hr1 r2 r3 r4 z5
  go_enter Tryz.func80, Tryz.ntmps80
  go_upto_region 1 with fail
  obtain ⟨W, hW⟩ : ∃ W, W = (w.alloc (.cells #[.string id, .int .i64 lim, .int .i64 pos, .int .i64 most, .int .i64 sum, .slice AH hs.length cH, .int .i64 sp, .int .i64 hd, .slice AC cs.length cC, .slice AS ss.length cS, .slice AL sl.length cL] 29)).alloc (.cells #[.string ⟨#[]⟩, .int .i64 0, .int .i64 0, .int .i64 0, .int .i64 0, .slice none 0 0, .int .i64 0, .int .i64 0, .slice none 0 0, .slice none 0 0, .slice none 0 0] 29) := ⟨_, rfl⟩
  have b0 : bk W w.heap.size 29 [.string id, .int .i64 lim, .int .i64 pos, .int .i64 most, .int .i64 sum, .slice AH hs.length cH, .int .i64 sp, .int .i64 hd, .slice AC cs.length cC, .slice AS ss.length cS, .slice AL sl.length cL] := by rw [hW]; exact (bk.new w _ _).alloc _
  have b1 : bk W (w.heap.size + 1) 29 [.string ⟨#[]⟩, .int .i64 0, .int .i64 0, .int .i64 0, .int .i64 0, .slice none 0 0, .int .i64 0, .int .i64 0, .slice none 0 0, .slice none 0 0, .slice none 0 0] := by rw [hW]; simpa using bk.new (w.alloc _) 29 [.string ⟨#[]⟩, .int .i64 0, .int .i64 0, .int .i64 0, .int .i64 0, .slice none 0 0, .int .i64 0, .int .i64 0, .slice none 0 0, .slice none 0 0, .slice none 0 0]
  have HB0 : Hid (Below w.heap.size w W) := Lib.hid (by rw [hW]; exact ((Below.refl _ _).alloc (Nat.le_refl _) _).alloc (by simp) _)
  have y0 : w.heap.size + 2 ≤ W.heap.size := by rw [hW]; simp
  rw [← hW]
  clear hW
  have y1 : w.heap.size < W.heap.size := by omega
  obtain ⟨⟨p0, p1, p2, p3, p4, p5, p6, p7, p8, p9, p10⟩, -⟩ := b0.eleven
  have B0 := Lib.hid b0
  have B1 := Lib.hid b1
  clear b0 b1
  go_wp2_with (at_builtin; refine app_rows hCells 3 (fun _ => rfl) (by decide) hCells_one 23 33 #[.string ⟨#[]⟩, .int .i64 0, .int .i64 0] 32 Tryz.underlying23 infoHold rfl _ _ rfl rfl W.heap.size (W.alloc (.cells #[] 33)) _ [] hs AH cH (by rfl) (by rfl) (owE_empty _ _ _ _ W (Nat.le_refl _)) (HSR.out _ (HB0.out.alloc (by omega) _)) (by unfold maxLen; simp; omega) (by simp; omega) (by simp) ?_)
  intro A1 c1 w1 ho1 hg1 hb1
  have z10 : W.heap.size + 1 ≤ w1.heap.size := by have := hg1.size; simpa using this
  have hb1' : Below W.heap.size W w1 := ((Below.refl W.heap.size W).alloc (Nat.le_refl _) _).trans hb1
  have C0 := Lib.hid (B0.out.below hb1' (by omega))
  have C1 := Lib.hid (B1.out.below hb1' (by omega))
  have HH1 : Hid (HoldsR.mine W.heap.size w1.heap.size w1 [.slice A1 hs.length c1] hs) := Lib.hid (owE_holds ho1)
  have HB1 : Hid (Below w.heap.size w w1) := Lib.hid (HB0.out.trans (hb1'.mono (by omega)))
  clear ho1 hg1 hb1 hb1' HB0 B0 B1 p0 p1 p2 p3 p4 p5 p6 p7 p8 p9 p10
  obtain ⟨⟨p0, p1, p2, p3, p4, p5, p6, p7, p8, p9, p10⟩, f0, f1, f2, f3, f4, f5, f6, f7, f8, f9, f10⟩ := C0.out.eleven
  go_wp2_with fail
  obtain ⟨W2, hW2⟩ : ∃ W2, W2 = w1.setCell ⟨w.heap.size, 5, none⟩ (.slice A1 hs.length c1) := ⟨_, rfl⟩
  have ht2 := (Turned.refl w.heap.size (w.heap.size + 1) w1).set (b := w.heap.size) 5 (.slice A1 hs.length c1) (by omega) (by omega)
  have b0 : bk (w1.setCell ⟨w.heap.size, 5, none⟩ (.slice A1 hs.length c1)) (w.heap.size) 29 [.string id, .int .i64 lim, .int .i64 pos, .int .i64 most, .int .i64 sum, .slice A1 hs.length c1, .int .i64 sp, .int .i64 hd, .slice AC cs.length cC, .slice AS ss.length cS, .slice AL sl.length cL] := C0.out.set 5 (.slice A1 hs.length c1)
  have b1 := C1.out.under ht2 (by omega)
  rw [← hW2] at ht2 b0 b1 ⊢
  have z2 := ht2.size
  have HH2 := Lib.hid (HH1.out.turned ht2 (.inr (by omega)) (Nat.le_refl _))
  have HB2 := Lib.hid (HB1.out.trans (ht2.below (B := w.heap.size) (by omega) (by omega)))
  clear hW2 ht2 HH1 HB1 p0 p1 p2 p3 p4 p5 p6 p7 p8 p9 p10 f0 f1 f2 f3 f4 f5 f6 f7 f8 f9 f10
  refine (HT2.out W2 HB2.out).mono ?_
  rintro e w3 ⟨v3, v4, rfl, hu3, hb3⟩
  obtain ⟨A3, c3, rfl, -⟩ := (ring2 hu3.rd).1.form
  obtain ⟨A4, c4, rfl, -⟩ := (ring2 hu3.rd).2.form
  have z3 := hb3.size
  have HH3 := Lib.hid (HH2.out.below hb3 (by omega))
  have HV3 := Lib.hid hu3
  have HB3 : Hid (Below w.heap.size w w3) := Lib.hid (HB2.out.trans (hb3.mono (by omega)))
  replace b0 := b0.below hb3 (by omega)
  replace b1 := b1.below hb3 (by omega)
  clear hu3 hb3 HH2 HB2 HT2 C0 C1
  obtain ⟨⟨p0, p1, p2, p3, p4, p5, p6, p7, p8, p9, p10⟩, f0, f1, f2, f3, f4, f5, f6, f7, f8, f9, f10⟩ := b0.eleven
  have C0 := Lib.hid b0
  have C1 := Lib.hid b1
  clear b0 b1
  go_wp2_with fail
  obtain ⟨W4, hW4⟩ : ∃ W4, W4 = (((w3.setCell ⟨w.heap.size, 6, none⟩ (.int .i64 sp)).setCell ⟨w.heap.size, 7, none⟩ (.int .i64 hd)).setCell ⟨w.heap.size, 8, none⟩ (.slice A3 cs.length c3)).setCell ⟨w.heap.size, 9, none⟩ (.slice A4 ss.length c4) := ⟨_, rfl⟩
  have ht4 := ((((Turned.refl w.heap.size (w.heap.size + 1) w3).set (b := w.heap.size) 6 (.int .i64 sp) (by omega) (by omega)).set (b := w.heap.size) 7 (.int .i64 hd) (by omega) (by omega)).set (b := w.heap.size) 8 (.slice A3 cs.length c3) (by omega) (by omega)).set (b := w.heap.size) 9 (.slice A4 ss.length c4) (by omega) (by omega)
  have b0 : bk ((((w3.setCell ⟨w.heap.size, 6, none⟩ (.int .i64 sp)).setCell ⟨w.heap.size, 7, none⟩ (.int .i64 hd)).setCell ⟨w.heap.size, 8, none⟩ (.slice A3 cs.length c3)).setCell ⟨w.heap.size, 9, none⟩ (.slice A4 ss.length c4)) (w.heap.size) 29 [.string id, .int .i64 lim, .int .i64 pos, .int .i64 most, .int .i64 sum, .slice A1 hs.length c1, .int .i64 sp, .int .i64 hd, .slice A3 cs.length c3, .slice A4 ss.length c4, .slice AL sl.length cL] := (((C0.out.set 6 (.int .i64 sp)).set 7 (.int .i64 hd)).set 8 (.slice A3 cs.length c3)).set 9 (.slice A4 ss.length c4)
  have b1 := C1.out.under ht4 (by omega)
  rw [← hW4] at ht4 b0 b1 ⊢
  have z4 := ht4.size
  have HH4 := Lib.hid (HH3.out.turned ht4 (.inr (by omega)) (by omega))
  have HV4 := Lib.hid (HV3.out.turned ht4 (.inr (by omega)) (Nat.le_refl _))
  have HB4 := Lib.hid (HB3.out.trans (ht4.below (B := w.heap.size) (by omega) (by omega)))
  clear hW4 ht4 HH3 HV3 HB3 C0 C1 p0 p1 p2 p3 p4 p5 p6 p7 p8 p9 p10 f0 f1 f2 f3 f4 f5 f6 f7 f8 f9 f10
  refine (HT3.out W4 HB4.out).mono ?_
  rintro e w5 ⟨u6, rfl, hu5, hb5⟩
  obtain ⟨A6, c6, rfl, -⟩ := Rep.slice_form hu5.rd
  have z5 := hb5.size
  have HH5 := Lib.hid (HH4.out.below hb5 (by omega))
  have HV5 := Lib.hid (HV4.out.below hb5 (by omega))
  have HS5 := Lib.hid hu5
  have HB5 : Hid (Below w.heap.size w w5) := Lib.hid (HB4.out.trans (hb5.mono (by omega)))
  replace b0 := b0.below hb5 (by omega)
  replace b1 := b1.below hb5 (by omega)
  clear hu5 hb5 HH4 HV4 HB4 HT3
  obtain ⟨⟨p0, p1, p2, p3, p4, p5, p6, p7, p8, p9, p10⟩, f0, f1, f2, f3, f4, f5, f6, f7, f8, f9, f10⟩ := b0.eleven
  obtain ⟨⟨r0, r1, r2, r3, r4, r5, r6, r7, r8, r9, r10⟩, g0, g1, g2, g3, g4, g5, g6, g7, g8, g9, g10⟩ := b1.eleven
  clear b0 b1
  go_wp2
  refine bodyPost_ret (v := .agg #[.string id, .int .i64 lim, .int .i64 pos, .int .i64 most, .int .i64 sum, .slice A1 hs.length c1, .int .i64 sp, .int .i64 hd, .slice A3 cs.length c3, .slice A4 ss.length c4, .slice A6 sl.length c6]) (by simp [results, Tryz.results80, go_sem, r0, r1, r2, r3, r4, r5, r6, r7, r8, r9, r10]) rfl ?_
  have ht := ((((((((((((Turned.refl w.heap.size (w.heap.size + 2) w5).set (b := w.heap.size) 10 (.slice A6 sl.length c6) (by omega) (by omega)).set (b := w.heap.size + 1) 0 (.string id) (by omega) (by omega)).set (b := w.heap.size + 1) 1 (.int .i64 lim) (by omega) (by omega)).set (b := w.heap.size + 1) 2 (.int .i64 pos) (by omega) (by omega)).set (b := w.heap.size + 1) 3 (.int .i64 most) (by omega) (by omega)).set (b := w.heap.size + 1) 4 (.int .i64 sum) (by omega) (by omega)).set (b := w.heap.size + 1) 5 (.slice A1 hs.length c1) (by omega) (by omega)).set (b := w.heap.size + 1) 6 (.int .i64 sp) (by omega) (by omega)).set (b := w.heap.size + 1) 7 (.int .i64 hd) (by omega) (by omega)).set (b := w.heap.size + 1) 8 (.slice A3 cs.length c3) (by omega) (by omega)).set (b := w.heap.size + 1) 9 (.slice A4 ss.length c4) (by omega) (by omega)).set (b := w.heap.size + 1) 10 (.slice A6 sl.length c6) (by omega) (by omega)
  have hsz := ht.size
  exact ⟨_, _, _, _, rfl, acct_mine_ivl (p1 := W2.heap.size) (p2 := W4.heap.size) ((HH5.out.turned ht (.inr (by omega)) (by omega)).mono (by omega) (by omega)) ((HV5.out.turned ht (.inr (by omega)) (by omega)).mono (by omega) (by omega)) ((HS5.out.turned ht (.inr (by omega)) (by omega)).mono (by omega) (by omega)) (by omega) (by omega) (by omega), HB5.out.trans (ht.below (by omega) (by omega))⟩
end Go.Proofs.YtnmijppppcgobaaGreatDoor
set_option linter.unusedVariables false
namespace Go.Proofs.YtnmijppppcgobaaGreatDoor
open Go.ChangeShapes Go.WideShapes Go.ChangeAt Go.RowKit

def mixL (k i : Nat) (l : List Int) : List Int := (shiftL k l).take i ++ l.drop i
set_option maxRecDepth 100000 in
theorem mixL_len {k i : Nat} {l : List Int} (h : i ≤ l.length) : (mixL k i l).length = l.length := by
  unfold mixL
  rw [List.length_append, List.length_take, List.length_drop, shiftL_len]; omega
set_option maxRecDepth 100000 in
theorem mixL_zero (k : Nat) (l : List Int) : mixL k 0 l = l := by simp [mixL]
set_option maxRecDepth 100000 in
theorem mixL_end (k : Nat) (l : List Int) : mixL k l.length l = shiftL k l := by
  unfold mixL
  rw [List.drop_length, List.append_nil, ← shiftL_len k l, List.take_length]
set_option maxRecDepth 100000 in
theorem mixL_step {k i : Nat} {l : List Int} (h : i < l.length) : (mixL k i l).set i (if k ≤ i then l.getD (i - k) 0 else 0) = mixL k (i + 1) l := by
  have h1 := shiftL_at (k := k) h
  unfold mixL
  have h2 : ((shiftL k l).take i).length = i := by rw [List.length_take, shiftL_len]; omega
  rw [List.set_append_right _ _ (by omega), h2, Nat.sub_self, List.drop_eq_getElem_cons h, List.set_cons_zero]
  obtain ⟨h3, h4⟩ := List.getElem?_eq_some_iff.1 h1
  rw [List.take_succ_eq_append_getElem h3, h4, List.append_assoc]; rfl
set_option maxRecDepth 100000 in
theorem mixL_low {k i : Nat} {l : List Int} (h : i < l.length) (hk : ¬ k ≤ i) : (mixL k i l).set i 0 = mixL k (i + 1) l := by
  rw [← mixL_step (k := k) h, if_neg hk]
set_option maxRecDepth 100000 in
theorem mixL_high {k i : Nat} {l : List Int} (h : i < l.length) (hk : k ≤ i) : ((mixL k i l).set i 0).set i (l.getD (i - k) 0) = mixL k (i + 1) l := by
  rw [List.set_set, ← mixL_step (k := k) h, if_pos hk]
set_option maxRecDepth 100000 in
theorem nums.cell_at {K : IntKind} {lo hi : Nat} {w : World} {b off n c : Nat} {l : List Int} (h : nums K lo hi w (.slice (some ⟨b, off, none⟩) n c) l) {j : Nat} (hj : j < l.length) :
    w.cell? ⟨b, off + j, none⟩ = some (.int K (l.getD j 0)) ∧ w.frozen? ⟨b, off + j, none⟩ = false := by
  obtain ⟨b', off', e, h1, h2, h3, h4, h5⟩ := h.own_at hj
  simp only [Option.some.injEq, Addr.mk.injEq, and_true] at e
  obtain ⟨rfl, rfl⟩ := e
  exact ⟨h3, h4⟩
set_option maxRecDepth 100000 in
theorem rd.cell_at {hi : Nat} {w : World} {b off n c : Nat} {l : List Int} (h : rd .i64 hi w (.slice (some ⟨b, off, none⟩) n c) l) {j : Nat} (hj : j < l.length) :
    b < hi ∧ w.cell? ⟨b, off + j, none⟩ = some (.int .i64 (l.getD j 0)) := by
  obtain ⟨b', off', e, h1, h2⟩ := ring_at h (List.getElem?_eq_getElem hj)
  simp only [Option.some.injEq, Addr.mk.injEq, and_true] at e
  obtain ⟨rfl, rfl⟩ := e
  rw [List.getD_eq_getElem?_getD, List.getElem?_eq_getElem hj]
  exact ⟨h1, h2⟩
set_option maxRecDepth 100000 in
theorem bk.turned {w w' : World} {lo hi g : Nat} {t : TypeId} {cs : List Value} (h : bk w g t cs) (ht : Turned lo hi w w') (hg : g < lo ∨ hi ≤ g) : bk w' g t cs := (ht.block g h.lt (by omega)).trans h
set_option maxRecDepth 100000 in
theorem nums.len {K : IntKind} {lo hi : Nat} {w : World} {A : Option Addr} {n c : Nat} {l : List Int} (h : nums K lo hi w (.slice A n c) l) : n = l.length := by
  obtain ⟨A', c', hv, -⟩ := h
  simp only [Value.slice.injEq] at hv
  exact hv.2.1
set_option maxRecDepth 100000 in
/-- the quotient of two numbers that are no less than nought -/
theorem quo_ok {n s : Int} (h0 : 0 ≤ n) (h1 : n ≤ 1000000000) (h2 : 1 ≤ s) : wrap64 (n.tdiv s) = n / s ∧ 0 ≤ n / s ∧ n / s ≤ 1000000000 := by
  have e : n.tdiv s = n / s := Int.tdiv_eq_ediv_of_nonneg h0
  have l0 : 0 ≤ n / s := Int.ediv_nonneg h0 (by omega)
  have l1 : n / s ≤ n := Int.ediv_le_self s h0
  rw [e]
  refine ⟨?_, l0, by omega⟩
  unfold wrap64; omega

set_option maxRecDepth 100000 in
set_option maxHeartbeats 6400000 in
theorem specRingRoll_any (hi : Nat) (vc vs : Value) (r : RingD) (now : Int) (w : World) (h1 : rd .i64 hi w vc r.2.2.1) (h2 : rd .i64 hi w vs r.2.2.2) (hh : hi ≤ w.heap.size) (hc : r.2.2.1.length ≤ 1048576) (hs : r.2.2.2.length ≤ 1048576) :
    Calls Tryz.prog 174 #[.agg #[.int .i64 r.1, .int .i64 r.2.1, vc, vs], .int .i64 now] w (ringOne (ringRoll r now) w) := by
  obtain ⟨A1, c1, rfl, -⟩ := h1.form
  obtain ⟨A2, c2, rfl, -⟩ := h2.form
  have HCP := Lib.hid (fun W (hW : Below w.heap.size w W) => specCopy_any hi _ _ r W (h1.below hW hh) (h2.below hW hh) (Nat.le_trans hh hW.size) hc hs)
  have HOK := Lib.hid (fun W (hW : Below w.heap.size w W) => specRingOk_any hi _ _ r W (h1.below hW hh) (h2.below hW hh) (Nat.le_trans hh hW.size) hc hs)
  have HTM := Lib.hid (fun W => specTime_any now W)
  have HC := Lib.hid h1
  have HS := Lib.hid h2
  clear h1 h2
  have HLEN := Lib.hid (fun h => ringOk_len (r := r) h)
  have HRL : Hid (ringRoll r now = if (ringOk r && (timeB now && decide (r.2.1 < now / r.1))) = true then (r.1, now / r.1, shiftL (now / r.1 - r.2.1).toNat r.2.2.1, shiftL (now / r.1 - r.2.1).toNat r.2.2.2) else r) := Lib.hid rfl
  have HTB : Hid (timeB now = true → 0 ≤ now ∧ now ≤ 1000000000) := Lib.hid fun h => by simpa [timeB, inB] using h
  generalize ringOk r = ok at HOK HLEN HRL
  generalize timeB now = tm at HTM HRL HTB
  obtain ⟨sp, hd, cs, ss⟩ := r
  simp only at HC HS hc hs HCP HOK HLEN HRL ⊢
  go_enter Tryz.func174, Tryz.ntmps174
  go_wp2_with fail
  obtain ⟨W, hW⟩ : ∃ W, W = (w.alloc (.cells #[.int .i64 sp, .int .i64 hd, .slice A1 cs.length c1, .slice A2 ss.length c2] 26)).alloc (.cells #[.int .i64 0, .int .i64 0, .slice none 0 0, .slice none 0 0] 26) := ⟨_, rfl⟩
  have b0 : bk W w.heap.size 26 [.int .i64 sp, .int .i64 hd, .slice A1 cs.length c1, .slice A2 ss.length c2] := by rw [hW]; exact (bk.new w _ _).alloc _
  have b1 : bk W (w.heap.size + 1) 26 [.int .i64 0, .int .i64 0, .slice none 0 0, .slice none 0 0] := by rw [hW]; simpa using bk.new (w.alloc _) _ _
  have HB0 : Hid (Below w.heap.size w W) := Lib.hid (by rw [hW]; exact ((Below.refl _ _).alloc (Nat.le_refl _) _).alloc (by simp) _)
  have z0 : w.heap.size + 2 ≤ W.heap.size := by rw [hW]; simp
  rw [← hW]
  clear hW
  refine (HCP.out W HB0.out).mono ?_
  rintro e w1 ⟨vc', vs', rfl, hm1, hb1⟩
  obtain ⟨uc, us, hv, hnc, hns, hap⟩ := ring_mine hm1
  simp only [List.cons.injEq, and_true, true_and] at hv
  obtain ⟨rfl, rfl⟩ := hv
  obtain ⟨AU, cU, rfl, -⟩ := hnc.form
  obtain ⟨AV, cV, rfl, -⟩ := hns.form
  have z1 := hb1.size
  replace b0 := b0.below hb1 (by omega)
  replace b1 := b1.below hb1 (by omega)
  have HB1 : Hid (Below w.heap.size w w1) := Lib.hid (HB0.out.trans (hb1.mono (by omega)))
  have HU1 := Lib.hid hnc
  have HV1 := Lib.hid hns
  have HAP := Lib.hid hap
  clear hm1 hb1 hnc hns hap HB0
  go_upto_region 2 with fail
  obtain ⟨W3, hW3⟩ : ∃ W3, W3 = w1.alloc (.cells #[.int .i64 sp, .int .i64 hd, .slice AU cs.length cU, .slice AV ss.length cV] 26) := ⟨_, rfl⟩
  replace b0 := b0.alloc (.cells #[.int .i64 sp, .int .i64 hd, .slice AU cs.length cU, .slice AV ss.length cV] 26)
  replace b1 := b1.alloc (.cells #[.int .i64 sp, .int .i64 hd, .slice AU cs.length cU, .slice AV ss.length cV] 26)
  have b2 := bk.new w1 26 [.int .i64 sp, .int .i64 hd, .slice AU cs.length cU, .slice AV ss.length cV]
  have hb3 := (Below.refl w1.heap.size w1).alloc (Nat.le_refl _) (.cells #[.int .i64 sp, .int .i64 hd, .slice AU cs.length cU, .slice AV ss.length cV] 26)
  rw [show ([Value.int .i64 sp, .int .i64 hd, .slice AU cs.length cU, .slice AV ss.length cV] : List Value).toArray = #[.int .i64 sp, .int .i64 hd, .slice AU cs.length cU, .slice AV ss.length cV] from rfl] at b2
  rw [← hW3] at b0 b1 b2 hb3 ⊢
  clear hW3
  have z3 := b2.lt
  have HB3 : Hid (Below w.heap.size w W3) := Lib.hid (HB1.out.trans (hb3.mono (by omega)))
  have HU3 := Lib.hid (HU1.out.below hb3 (Nat.le_refl _))
  have HV3 := Lib.hid (HV1.out.below hb3 (Nat.le_refl _))
  clear hb3 HU1 HV1 HB1
  obtain ⟨⟨p0, p1, p2, p3⟩, -⟩ := b0.cells
  have B0 := Lib.hid b0
  have B1 := Lib.hid b1
  have B2 := Lib.hid b2
  clear b0 b1 b2
  go_cut [26] (fun cv wx => cv = .bool (!(ok && (tm && decide (hd < now / sp)))) ∧ Below W3.heap.size W3 wx)
  case first =>
    have HX : Hid (Ext W3 W3.drew) := Lib.hid (Ext.refl W3).drew
    have HBX : Hid (∀ W, Ext W3 W → Below w.heap.size w W) := Lib.hid fun W hW => HB3.out.trans (hW.below.mono (by omega))
    have P0 := Lib.hid p0
    have P1 := Lib.hid p1
    have P2 := Lib.hid p2
    have P3 := Lib.hid p3
    clear p0 p1 p2 p3
    cases ok
    · refine quiet_region (C := Ext W3) (by kernel_rfl) (by kernel_rfl) HX.out ?_
      repeat (first
        | go_big_quiet_skip
        | (go_big_quiet_want; go_big_quiet_op; go_big_quiet_on)
        | (go_big_quiet_want; go_big_quiet_op; apply Exists.intro; refine ⟨fun _ _ => rfl, ?_⟩; go_big_quiet_on)
        | (go_big_quiet_want
           apply Exists.intro
           refine ⟨fun W hW => ?_, ?_⟩
           (have q0 := hW.cell P0.out (by omega)
            have q1 := hW.cell P1.out (by omega)
            have q2 := hW.cell P2.out (by omega)
            have q3 := hW.cell P3.out (by omega)
            unfold Oper.quietAt
            go_simp
            rfl)
           simp only [Act.put, List.setIfInBounds_toArray, List.set_cons_zero, List.set_cons_succ]
           go_big_quiet_on)
        | (go_big_quiet_want
           apply Exists.intro
           refine ⟨fun W hW => ?_, ?_⟩
           (unfold Oper.quietAt
            go_simp
            go_at_call 164
            refine (HOK.out W (HBX.out W hW)).mono ?_
            rintro e w4 ⟨rfl, hb4⟩
            exact ⟨rfl, hW.step hb4⟩)
           simp only [Act.put, List.setIfInBounds_toArray, List.set_cons_zero, List.set_cons_succ]
           go_big_quiet_on)
        | (go_big_quiet_want
           apply Exists.intro
           refine ⟨fun W hW => ?_, ?_⟩
           (unfold Oper.quietAt
            go_simp
            go_at_call 82
            refine (HTM.out W).mono ?_
            rintro e w4 ⟨rfl, rfl⟩
            exact ⟨rfl, hW⟩)
           simp only [Act.put, List.setIfInBounds_toArray, List.set_cons_zero, List.set_cons_succ]
           go_big_quiet_on))
      refine wpQuiet_nil ?_
      intro W4 hW4
      go_wp2
      go_meet
      exact ⟨rfl, hW4⟩
    obtain ⟨o1, o2, -⟩ := HLEN.out rfl
    have n1 : (sp == 0) = false := by simp; omega
    have n2 : ¬ sp = 0 := by omega
    cases tm
    · refine quiet_region (C := Ext W3) (by kernel_rfl) (by kernel_rfl) HX.out ?_
      repeat (first
        | go_big_quiet_skip
        | (go_big_quiet_want; go_big_quiet_op; go_big_quiet_on)
        | (go_big_quiet_want; go_big_quiet_op; apply Exists.intro; refine ⟨fun _ _ => rfl, ?_⟩; go_big_quiet_on)
        | (go_big_quiet_want
           apply Exists.intro
           refine ⟨fun W hW => ?_, ?_⟩
           (have q0 := hW.cell P0.out (by omega)
            have q1 := hW.cell P1.out (by omega)
            have q2 := hW.cell P2.out (by omega)
            have q3 := hW.cell P3.out (by omega)
            unfold Oper.quietAt
            go_simp
            rfl)
           simp only [Act.put, List.setIfInBounds_toArray, List.set_cons_zero, List.set_cons_succ]
           go_big_quiet_on)
        | (go_big_quiet_want
           apply Exists.intro
           refine ⟨fun W hW => ?_, ?_⟩
           (unfold Oper.quietAt
            go_simp
            go_at_call 164
            refine (HOK.out W (HBX.out W hW)).mono ?_
            rintro e w4 ⟨rfl, hb4⟩
            exact ⟨rfl, hW.step hb4⟩)
           simp only [Act.put, List.setIfInBounds_toArray, List.set_cons_zero, List.set_cons_succ]
           go_big_quiet_on)
        | (go_big_quiet_want
           apply Exists.intro
           refine ⟨fun W hW => ?_, ?_⟩
           (unfold Oper.quietAt
            go_simp
            go_at_call 82
            refine (HTM.out W).mono ?_
            rintro e w4 ⟨rfl, rfl⟩
            exact ⟨rfl, hW⟩)
           simp only [Act.put, List.setIfInBounds_toArray, List.set_cons_zero, List.set_cons_succ]
           go_big_quiet_on))
      refine wpQuiet_nil ?_
      intro W4 hW4
      go_wp2
      go_meet
      exact ⟨rfl, hW4⟩
    obtain ⟨n3, n4⟩ := HTB.out rfl
    refine quiet_region (C := Ext W3) (by kernel_rfl) (by kernel_rfl) HX.out ?_
    repeat (first
      | go_big_quiet_skip
      | (go_big_quiet_want; go_big_quiet_op; go_big_quiet_on)
      | (go_big_quiet_want; go_big_quiet_op; apply Exists.intro; refine ⟨fun _ _ => rfl, ?_⟩; go_big_quiet_on)
      | (go_big_quiet_want
         apply Exists.intro
         refine ⟨fun W hW => ?_, ?_⟩
         (have q0 := hW.cell P0.out (by omega)
          have q1 := hW.cell P1.out (by omega)
          have q2 := hW.cell P2.out (by omega)
          have q3 := hW.cell P3.out (by omega)
          unfold Oper.quietAt
          go_simp
          rfl)
         simp only [Act.put, List.setIfInBounds_toArray, List.set_cons_zero, List.set_cons_succ]
         go_big_quiet_on)
      | (go_big_quiet_want
         apply Exists.intro
         refine ⟨fun W hW => ?_, ?_⟩
         (unfold Oper.quietAt
          go_simp
          go_at_call 164
          refine (HOK.out W (HBX.out W hW)).mono ?_
          rintro e w4 ⟨rfl, hb4⟩
          exact ⟨rfl, hW.step hb4⟩)
         simp only [Act.put, List.setIfInBounds_toArray, List.set_cons_zero, List.set_cons_succ]
         go_big_quiet_on)
      | (go_big_quiet_want
         apply Exists.intro
         refine ⟨fun W hW => ?_, ?_⟩
         (unfold Oper.quietAt
          go_simp
          go_at_call 82
          refine (HTM.out W).mono ?_
          rintro e w4 ⟨rfl, rfl⟩
          exact ⟨rfl, hW⟩)
         simp only [Act.put, List.setIfInBounds_toArray, List.set_cons_zero, List.set_cons_succ]
         go_big_quiet_on))
    refine wpQuiet_nil ?_
    intro W4 hW4
    go_wp2
    go_meet
    exact ⟨congrArg Value.bool (by rw [Bool.true_and, Bool.true_and]; by_cases h : hd < now / sp <;> simp [h] <;> omega), hW4⟩
  case rest =>
    obtain ⟨rfl, hbx⟩ := hcut
    have b0 := B0.out.below hbx (by omega)
    have b1 := B1.out.below hbx (by omega)
    have b2 := B2.out.below hbx (by omega)
    have zx := hbx.size
    have HBX : Hid (Below w.heap.size w wc) := Lib.hid (HB3.out.trans (hbx.mono (by omega)))
    have HU := Lib.hid (HU3.out.below hbx (by omega))
    have HV := Lib.hid (HV3.out.below hbx (by omega))
    clear hbx HB3 HU3 HV3 B0 B1 B2 p0 p1 p2 p3 HCP HOK HTM
    cases hg : (ok && (tm && decide (hd < now / sp)))
    · have HRF : Hid (ringRoll (sp, hd, cs, ss) now = (sp, hd, cs, ss)) := Lib.hid (by rw [HRL.out, hg]; rfl)
      obtain ⟨⟨p0, p1, p2, p3⟩, q0, q1, q2, q3⟩ := b2.cells
      obtain ⟨⟨r0, r1, r2, r3⟩, f0, f1, f2, f3⟩ := b1.cells
      clear b0 b1 b2 hg HRL HLEN HTB
      go_wp2
      refine bodyPost_ret (v := .agg #[.int .i64 sp, .int .i64 hd, .slice AU cs.length cU, .slice AV ss.length cV]) (by simp [results, Tryz.results174, go_sem, r0, r1, r2, r3]) rfl ?_
      rw [HRF.out]
      have ht := ((((Turned.refl w.heap.size (w.heap.size + 2) wc).set (b := w.heap.size + 1) 0 (.int .i64 sp) (by omega) (by omega)).set (b := w.heap.size + 1) 1 (.int .i64 hd) (by omega) (by omega)).set (b := w.heap.size + 1) 2 (.slice AU cs.length cU) (by omega) (by omega)).set (b := w.heap.size + 1) 3 (.slice AV ss.length cV) (by omega) (by omega)
      have hsz := ht.size
      exact ⟨_, _, rfl, ring_mine_of ((HU.out.turned ht (.inr (by omega)) (by omega)).mono (by omega) (by omega)) ((HV.out.turned ht (.inr (by omega)) (by omega)).mono (by omega) (by omega)) HAP.out, HBX.out.trans (ht.below (Nat.le_refl _) (by omega))⟩
    · simp only [Bool.and_eq_true, decide_eq_true_eq] at hg
      obtain ⟨rfl, rfl, hg⟩ := hg
      obtain ⟨o1, o2, o3, o4, o5, o6, o7⟩ := HLEN.out rfl
      obtain ⟨n3, n4⟩ := HTB.out rfl
      obtain ⟨-, n5, n6⟩ := quo_ok n3 n4 o1
      have n1 : (sp == 0) = false := by simp; omega
      have n2 : ¬ sp = 0 := by omega
      have HRT : Hid (ringRoll (sp, hd, cs, ss) now = (sp, now / sp, shiftL (now / sp - hd).toNat cs, shiftL (now / sp - hd).toNat ss)) := Lib.hid (by rw [HRL.out, Bool.true_and, Bool.true_and, if_pos (decide_eq_true hg)])
      obtain ⟨k, hk⟩ := Int.eq_ofNat_of_zero_le (show 0 ≤ now / sp - hd by omega)
      have k0 : (k : Int) ≤ 1000000000 := by omega
      have HO5 := Lib.hid o5
      have HKT : Hid ((now / sp - hd).toNat = k) := Lib.hid (by omega)
      clear o5 HRL HLEN HTB
      have hUl := HU.out.own_at (j := 0) (by omega)
      obtain ⟨bu, ou, rfl, u1, u2, -, -, u3⟩ := hUl
      have hVl := HV.out.own_at (j := 0) (by rw [HO5.out]; omega)
      obtain ⟨bv, ov, rfl, v1, v2, -, -, v3⟩ := hVl
      have HUV : Hid (bu ≠ bv) := Lib.hid fun e => HAP.out bu u3 (by rw [e]; exact v3)
      have HBU := Lib.hid u3
      have HBV := Lib.hid v3
      clear u3 v3
      obtain ⟨a1, e1, rfl, -, -⟩ := ring_at HC.out (List.getElem?_eq_getElem (show 0 < cs.length by omega))
      obtain ⟨a2, e2, rfl, -, -⟩ := ring_at HS.out (List.getElem?_eq_getElem (show 0 < ss.length by rw [HO5.out]; omega))
      obtain ⟨⟨p0, p1, p2, p3⟩, -⟩ := b0.cells
      have B0 := Lib.hid b0
      have B1 := Lib.hid b1
      have B2 := Lib.hid b2
      clear b0 b1 b2
      go_upto_region 4 with fail
      go_quiet (fail)
      go_wp2
      obtain ⟨W4, hW4⟩ : ∃ W4, W4 = wc.drewN nq := ⟨_, rfl⟩
      have B0 := Lib.hid (B0.out.drewN nq)
      have B1 := Lib.hid (B1.out.drewN nq)
      have B2 := Lib.hid (B2.out.drewN nq)
      have HU := Lib.hid (HU.out.below (below_drew' (Below.refl w1.heap.size wc) nq) (Nat.le_refl _))
      have HV := Lib.hid (HV.out.below (below_drew' (Below.refl w1.heap.size wc) nq) (Nat.le_refl _))
      have HBX := Lib.hid (below_drew' HBX.out nq)
      have zx4 : W3.heap.size ≤ (wc.drewN nq).heap.size := zx
      rw [← hW4] at B0 B1 B2 HU HV HBX zx4 ⊢
      clear hW4 p0 p1 p2 p3 zx
      go_loopw [38] (fun iv wr => ∃ i : Nat, i ≤ cs.length ∧ iv = .int .i64 i ∧ nums .i64 W.heap.size w1.heap.size wr (.slice (some ⟨bu, ou, none⟩) cs.length cU) (mixL k i cs) ∧ nums .i64 W.heap.size w1.heap.size wr (.slice (some ⟨bv, ov, none⟩) ss.length cV) (mixL k i ss) ∧ Turned W.heap.size w1.heap.size W4 wr) (fun iv _ => cs.length - (intOf iv).toNat)
      case atStart => exact ⟨0, Nat.zero_le _, rfl, by rw [mixL_zero]; exact HU.out, by rw [mixL_zero]; exact HV.out, Turned.refl _ _ _⟩
      case round =>
        obtain ⟨i, hi', rfl, hnu, hnv, htr⟩ := hrel
        have zr := htr.size
        have b0 := B0.out.turned htr (.inl (by omega))
        have b1 := B1.out.turned htr (.inl (by omega))
        have b2 := B2.out.turned htr (.inr (by omega))
        have HNU := Lib.hid hnu
        have HNV := Lib.hid hnv
        have HT := Lib.hid htr
        clear hnu hnv htr
        by_cases hin : i < cs.length
        · have g1 : (i : Int) < (cs.length : Int) := by omega
          have g2 : 0 ≤ (i : Int) := by omega
          have HIS : Hid (i < ss.length) := Lib.hid (by rw [HO5.out]; exact hin)
          have HIV : Hid ((i : Int) < (ss.length : Int)) := Lib.hid (by rw [HO5.out]; exact g1)
          have y0 : bu ≠ w.heap.size := by omega
          have y2 : bu ≠ w1.heap.size := by omega
          have x0 : bv ≠ w.heap.size := by omega
          have x2 : bv ≠ w1.heap.size := by omega
          obtain ⟨cu, fu⟩ := HNU.out.cell_at (j := i) (by rw [mixL_len hi']; exact hin)
          obtain ⟨⟨p0, p1, p2, p3⟩, -⟩ := b2.cells
          have BB0 := Lib.hid b0
          have BB1 := Lib.hid b1
          have BB2 := Lib.hid b2
          clear b0 b1 b2
          go_upto_region 9 with fail
          obtain ⟨W5, hW5⟩ : ∃ W5, W5 = wr.setCell ⟨bu, ou + i, none⟩ (.int .i64 0) := ⟨_, rfl⟩
          have BB0 := Lib.hid (BB0.out.far (p := ⟨bu, ou + i, none⟩) (Ne.symm y0) (.int .i64 0))
          have BB2 := Lib.hid (BB2.out.far (p := ⟨bu, ou + i, none⟩) (Ne.symm y2) (.int .i64 0))
          have HNU := Lib.hid (HNU.out.set (j := i) (by rw [mixL_len hi']; exact hin) 0)
          have HNV := Lib.hid (HNV.out.far (g := bu) (o := ou + i) (.int .i64 0) (by rw [HBV.out]; exact fun e => HUV.out (Option.some.inj e).symm))
          have HT := Lib.hid (HT.out.set (b := bu) (ou + i) (.int .i64 0) (by omega) (by omega))
          rw [← hW5] at BB0 BB2 HNU HNV HT ⊢
          clear hW5 p0 p1 p2 p3 cu fu
          obtain ⟨⟨p0, p1, p2, p3⟩, -⟩ := BB2.out.cells
          obtain ⟨cv, fv⟩ := HNV.out.cell_at (j := i) (by rw [mixL_len (Nat.le_of_lt HIS.out)]; exact HIS.out)
          have g3 := HIV.out
          go_upto_region 10 with fail
          obtain ⟨W6, hW6⟩ : ∃ W6, W6 = W5.setCell ⟨bv, ov + i, none⟩ (.int .i64 0) := ⟨_, rfl⟩
          have BB0 := Lib.hid (BB0.out.far (p := ⟨bv, ov + i, none⟩) (Ne.symm x0) (.int .i64 0))
          have BB2 := Lib.hid (BB2.out.far (p := ⟨bv, ov + i, none⟩) (Ne.symm x2) (.int .i64 0))
          have HNV := Lib.hid (HNV.out.set (j := i) (by rw [mixL_len (Nat.le_of_lt HIS.out)]; exact HIS.out) 0)
          have HNU := Lib.hid (HNU.out.far (g := bv) (o := ov + i) (.int .i64 0) (by rw [HBU.out]; exact fun e => HUV.out (Option.some.inj e)))
          have HT := Lib.hid (HT.out.set (b := bv) (ov + i) (.int .i64 0) (by omega) (by omega))
          rw [← hW6] at BB0 BB2 HNU HNV HT ⊢
          clear hW6 p0 p1 p2 p3 cv fv
          by_cases hki : k ≤ i
          · obtain ⟨d, hdi⟩ : ∃ d : Nat, d = i - k := ⟨_, rfl⟩
            have gd : (d : Int) < (cs.length : Int) := by omega
            have ge : 0 ≤ (d : Int) := by omega
            have gw : IntKind.i64.wrap ((i : Int) - (k : Int)) = (d : Int) := by rw [IntKind.wrap_i64]; omega
            have gk : (k : Int) ≤ (i : Int) := by omega
            have HDS : Hid (d < ss.length) := Lib.hid (by rw [HO5.out]; omega)
            obtain ⟨-, cc⟩ := ((HC.out.below HBX.out hh).below (HT.out.below (B := hi) (by omega) (by omega)) (Nat.le_refl _)).cell_at (j := d) (by omega)
            obtain ⟨⟨p0, p1, p2, p3⟩, -⟩ := BB2.out.cells
            obtain ⟨⟨q0, q1, q2, q3⟩, -⟩ := BB0.out.cells
            obtain ⟨cu, fu⟩ := HNU.out.cell_at (j := i) (by rw [List.length_set, mixL_len hi']; exact hin)
            have HDI := Lib.hid hdi
            clear hdi
            go_upto_region 11 with fail
            go_region
            obtain ⟨W7, hW7⟩ : ∃ W7, W7 = (W6.setCell ⟨bu, ou + i, none⟩ (.int .i64 (cs[d]?.getD 0))).drew := ⟨_, rfl⟩
            have BB0 := Lib.hid ((BB0.out.far (p := ⟨bu, ou + i, none⟩) (Ne.symm y0) (.int .i64 (cs[d]?.getD 0))).drew)
            have BB2 := Lib.hid ((BB2.out.far (p := ⟨bu, ou + i, none⟩) (Ne.symm y2) (.int .i64 (cs[d]?.getD 0))).drew)
            have HNU := Lib.hid ((HNU.out.set (j := i) (by rw [List.length_set, mixL_len hi']; exact hin) (cs[d]?.getD 0)).below (Below.refl w1.heap.size _).drew (Nat.le_refl _))
            have HNV := Lib.hid ((HNV.out.far (g := bu) (o := ou + i) (.int .i64 (cs[d]?.getD 0)) (by rw [HBV.out]; exact fun e => HUV.out (Option.some.inj e).symm)).below (Below.refl w1.heap.size _).drew (Nat.le_refl _))
            have HT := Lib.hid ((HT.out.set (b := bu) (ou + i) (.int .i64 (cs[d]?.getD 0)) (by omega) (by omega)).trans (Turned.of_below (Below.refl _ _).drew))
            rw [← hW7] at BB0 BB2 HNU HNV HT ⊢
            clear hW7 p0 p1 p2 p3 q0 q1 q2 q3 cu fu cc
            have gv := HIV.out
            have gdv : (d : Int) < (ss.length : Int) := by have := HDS.out; omega
            obtain ⟨-, cc⟩ := ((HS.out.below HBX.out hh).below (HT.out.below (B := hi) (by omega) (by omega)) (Nat.le_refl _)).cell_at (j := d) HDS.out
            obtain ⟨⟨p0, p1, p2, p3⟩, -⟩ := BB2.out.cells
            obtain ⟨⟨q0, q1, q2, q3⟩, -⟩ := BB0.out.cells
            obtain ⟨cv, fv⟩ := HNV.out.cell_at (j := i) (by rw [List.length_set, mixL_len (Nat.le_of_lt HIS.out)]; exact HIS.out)
            go_upto_region 12 with fail
            go_region
            obtain ⟨W8, hW8⟩ : ∃ W8, W8 = (W7.setCell ⟨bv, ov + i, none⟩ (.int .i64 (ss[d]?.getD 0))).drew := ⟨_, rfl⟩
            have HNV := Lib.hid ((HNV.out.set (j := i) (by rw [List.length_set, mixL_len (Nat.le_of_lt HIS.out)]; exact HIS.out) (ss[d]?.getD 0)).below (Below.refl w1.heap.size _).drew (Nat.le_refl _))
            have HNU := Lib.hid ((HNU.out.far (g := bv) (o := ov + i) (.int .i64 (ss[d]?.getD 0)) (by rw [HBU.out]; exact fun e => HUV.out (Option.some.inj e))).below (Below.refl w1.heap.size _).drew (Nat.le_refl _))
            have HT := Lib.hid ((HT.out.set (b := bv) (ov + i) (.int .i64 (ss[d]?.getD 0)) (by omega) (by omega)).trans (Turned.of_below (Below.refl _ _).drew))
            rw [← hW8] at HNU HNV HT ⊢
            clear hW8 p0 p1 p2 p3 q0 q1 q2 q3 cv fv cc
            go_wp2
            go_roundw
            case rel => exact ⟨i + 1, by omega, by go_num, by rw [← mixL_high (k := k) hin hki, ← HDI.out]; exact HNU.out, by rw [← mixL_high (k := k) HIS.out hki, ← HDI.out]; exact HNV.out, HT.out⟩
            case measure => simp [intOf] <;> omega
          · have gk : ¬ (k : Int) ≤ (i : Int) := by omega
            go_wp2
            go_roundw
            case rel => exact ⟨i + 1, by omega, by go_num, by rw [← mixL_low (k := k) hin hki]; exact HNU.out, by rw [← mixL_low (k := k) HIS.out hki]; exact HNV.out, HT.out⟩
            case measure => simp [intOf] <;> omega
        · obtain rfl : i = cs.length := by omega
          have HEU : Hid (mixL k cs.length cs = shiftL k cs) := Lib.hid (mixL_end _ _)
          have HEV : Hid (mixL k cs.length ss = shiftL k ss) := Lib.hid (by rw [← HO5.out]; exact mixL_end _ _)
          rw [HEU.out] at HNU
          rw [HEV.out] at HNV
          obtain ⟨⟨p0, p1, p2, p3⟩, d0, d1, d2, d3⟩ := b2.cells
          obtain ⟨⟨q0, q1, q2, q3⟩, -⟩ := b0.cells
          obtain ⟨⟨r0, r1, r2, r3⟩, f0, f1, f2, f3⟩ := b1.cells
          clear b0 b1 b2
          go_wp2
          refine bodyPost_ret (v := .agg #[.int .i64 sp, .int .i64 (now / sp), .slice (some ⟨bu, ou, none⟩) cs.length cU, .slice (some ⟨bv, ov, none⟩) ss.length cV]) (by simp [results, Tryz.results174, go_sem, r0, r1, r2, r3]) rfl ?_
          rw [HRT.out, HKT.out]
          have ht1 := (Turned.refl w1.heap.size (w1.heap.size + 1) wr).set (b := w1.heap.size) 1 (.int .i64 (now / sp)) (by omega) (by omega)
          have z9 := ht1.size
          have HNU := Lib.hid (HNU.out.turned ht1 (.inl (by omega)) (by omega))
          have HNV := Lib.hid (HNV.out.turned ht1 (.inl (by omega)) (by omega))
          have HB9 := Lib.hid (HBX.out.trans ((HT.out.below (B := w.heap.size) (by omega) (by omega)).trans (ht1.below (B := w.heap.size) (by omega) (by omega))))
          generalize (wr.setCell { block := w1.heap.size, off := 1 } (Value.int IntKind.i64 (now / sp))) = W9 at *
          have ht := ((((Turned.refl w.heap.size (w.heap.size + 2) W9).set (b := w.heap.size + 1) 0 (.int .i64 sp) (by omega) (by omega)).set (b := w.heap.size + 1) 1 (.int .i64 (now / sp)) (by omega) (by omega)).set (b := w.heap.size + 1) 2 (.slice (some ⟨bu, ou, none⟩) cs.length cU) (by omega) (by omega)).set (b := w.heap.size + 1) 3 (.slice (some ⟨bv, ov, none⟩) ss.length cV) (by omega) (by omega)
          have hsz := ht.size
          exact ⟨_, _, rfl, ring_mine_of ((HNU.out.turned ht (.inr (by omega)) (by omega)).mono (by omega) (by omega)) ((HNV.out.turned ht (.inr (by omega)) (by omega)).mono (by omega) (by omega)) HAP.out, HB9.out.trans (ht.below (Nat.le_refl _) (by omega))⟩
end Go.Proofs.YtnmijppppcgobaaGreatDoor
set_option linter.unusedVariables false
namespace Go.Proofs.YtnmijppppcgobaaGreatDoor
open Go.ChangeShapes Go.WideShapes Go.ChangeAt Go.RowKit

abbrev setH (a : AcctD) (l : List HoldD) : AcctD := (aId a, aLim a, aPos a, aMost a, aSum a, l, aR a, aS a)
abbrev setR (a : AcctD) (r : RingD) : AcctD := (aId a, aLim a, aPos a, aMost a, aSum a, aH a, r, aS a)
set_option maxRecDepth 100000 in
theorem swapH {p0 p1 p2 : Nat} {w : World} {a : AcctD} {vh vc vs vl vh2 : Value} {l : List HoldD} (h : AcctR.mine p0 p1 w (aCells a vh vc vs vl) a) (h2 : HoldsR.mine p1 p2 w [vh2] l) (h01 : p0 ≤ p1) (h12 : p1 ≤ p2) : AcctR.mine p0 p2 w (aCells (setH a l) vh2 vc vs vl) (setH a l) := by
  obtain ⟨uh, uc, us, ul, F, G, H, hcs, o1, o2, o3, n1, n2, n3, ap, hb⟩ := acct_mine h
  simp only [aCells, List.cons.injEq, and_true, true_and] at hcs
  obtain ⟨rfl, rfl, rfl, rfl⟩ := hcs
  obtain ⟨F2, f1, f2, f3⟩ := h2
  refine acct_mine_of (a := setH a l) f1 o2 o3 f2 n2 n3 ⟨fun b hb1 hb2 => ?_, fun b hb1 hb2 => ?_, ap.gh⟩ fun b hb' => ?_
  · have := f3 b hb1; have := hb b (.inr (.inl hb2)); omega
  · have := f3 b hb1; have := hb b (.inr (.inr hb2)); omega
  · rcases hb' with hb' | hb'
    · have := f3 b hb'; omega
    · have := hb b (.inr hb'); omega
set_option maxRecDepth 100000 in
theorem swapR {p0 p1 p2 : Nat} {w : World} {a : AcctD} {vh vc vs vl vc2 vs2 : Value} {r : RingD} (h : AcctR.mine p0 p1 w (aCells a vh vc vs vl) a) (h2 : RingR.mine p1 p2 w [.int .i64 r.1, .int .i64 r.2.1, vc2, vs2] r) (h01 : p0 ≤ p1) (h12 : p1 ≤ p2) : AcctR.mine p0 p2 w (aCells (setR a r) vh vc2 vs2 vl) (setR a r) := by
  obtain ⟨uh, uc, us, ul, F, G, H, hcs, o1, o2, o3, n1, n2, n3, ap, hb⟩ := acct_mine h
  simp only [aCells, List.cons.injEq, and_true, true_and] at hcs
  obtain ⟨rfl, rfl, rfl, rfl⟩ := hcs
  obtain ⟨G2, f1, f2, f3⟩ := h2
  refine acct_mine_of (a := setR a r) o1 f1 o3 n1 f2 n3 ⟨fun b hb1 hb2 => ?_, ap.fh, fun b hb1 hb2 => ?_⟩ fun b hb' => ?_
  · have := f3 b hb2; have := hb b (.inl hb1); omega
  · have := f3 b hb1; have := hb b (.inr (.inr hb2)); omega
  · rcases hb' with hb' | hb' | hb'
    · have := hb b (.inl hb'); omega
    · have := f3 b hb'; omega
    · have := hb b (.inr (.inr hb')); omega
def acctSwept (a : AcctD) (now : Int) : AcctD := if (acctOk a && timeB now) = true then setH a (liveL (aH a) now) else a
set_option maxRecDepth 100000 in
set_option maxHeartbeats 4000000 in
theorem specAcctSwept_any (hi : Nat) (vh vc vs vl : Value) (a : AcctD) (now : Int) (w : World) (hz : acctSmall 1048576 a) (hbig : acctBig a) (h : AcctR.rd hi w (aCells a vh vc vs vl) a) (hh : hi ≤ w.heap.size) :
    Calls Tryz.prog 33 #[.agg #[.string (aId a), .int .i64 (aLim a), .int .i64 (aPos a), .int .i64 (aMost a), .int .i64 (aSum a), vh, .int .i64 (aR a).1, .int .i64 (aR a).2.1, vc, vs, vl], .int .i64 now] w (acctOne (acctSwept a now) w) := by
  have HOK := Lib.hid (fun W (hW : Below w.heap.size w W) => specAcctOk_any hi vh vc vs vl a W hz hbig (Rep.below (R := AcctR) h hW hh) (Nat.le_trans hh hW.size))
  have HCP := Lib.hid (fun W (hW : Below w.heap.size w W) => specAcctCopy_any hi vh vc vs vl a W hz (Rep.below (R := AcctR) h hW hh) (Nat.le_trans hh hW.size))
  obtain ⟨vh', vc', vs', vl', hcs, r1, r2, r3, r4⟩ := acct_rd h
  simp only [aCells, List.cons.injEq, and_true, true_and] at hcs
  obtain ⟨rfl, rfl, rfl, rfl⟩ := hcs
  have HLV := Lib.hid (fun W (hW : Below w.heap.size w W) => specLiveOnes_any hi _ (aH a) now W hz.h (Rep.below (R := HoldsR) r1 hW hh) (Nat.le_trans hh hW.size))
  have HTM := Lib.hid (fun W => specTime_any now W)
  clear h hz hbig
  have HSW : Hid (acctSwept a now = if (acctOk a && timeB now) = true then setH a (liveL (aH a) now) else a) := Lib.hid rfl
  generalize acctOk a = ok at HOK HSW
  generalize timeB now = tm at HTM HSW
  generalize acctSwept a now = am at HSW ⊢
  obtain ⟨ls, hls⟩ : ∃ ls, ls = liveL (aH a) now := ⟨_, rfl⟩
  rw [← hls] at HLV HSW
  clear hls
  obtain ⟨id, lim, pos, most, sum, hs, ⟨sp, hd, cs, ss⟩, sl⟩ := a
  simp only [aId, aLim, aPos, aMost, aSum, aH, aS] at r1 r2 r3 r4 HOK HCP HLV HSW ⊢
  obtain ⟨AH, cH, rfl, -⟩ := Rep.slice_form r1
  obtain ⟨AC, cC, rfl, -⟩ := r2.form
  obtain ⟨AS, cS, rfl, -⟩ := r3.form
  obtain ⟨AL, cL, rfl, -⟩ := Rep.slice_form r4
  clear r1 r2 r3 r4
  go_enter Tryz.func33, Tryz.ntmps33
  go_upto_region 1 with fail
  obtain ⟨W, hW⟩ : ∃ W, W = (w.alloc (.cells #[.string id, .int .i64 lim, .int .i64 pos, .int .i64 most, .int .i64 sum, .slice AH hs.length cH, .int .i64 sp, .int .i64 hd, .slice AC cs.length cC, .slice AS ss.length cS, .slice AL sl.length cL] 29)).alloc (.cells #[.string ⟨#[]⟩, .int .i64 0, .int .i64 0, .int .i64 0, .int .i64 0, .slice none 0 0, .int .i64 0, .int .i64 0, .slice none 0 0, .slice none 0 0, .slice none 0 0] 29) := ⟨_, rfl⟩
  have b0 : bk W w.heap.size 29 [.string id, .int .i64 lim, .int .i64 pos, .int .i64 most, .int .i64 sum, .slice AH hs.length cH, .int .i64 sp, .int .i64 hd, .slice AC cs.length cC, .slice AS ss.length cS, .slice AL sl.length cL] := by rw [hW]; exact (bk.new w _ _).alloc _
  have b1 : bk W (w.heap.size + 1) 29 [.string ⟨#[]⟩, .int .i64 0, .int .i64 0, .int .i64 0, .int .i64 0, .slice none 0 0, .int .i64 0, .int .i64 0, .slice none 0 0, .slice none 0 0, .slice none 0 0] := by rw [hW]; simpa using bk.new (w.alloc _) 29 [.string ⟨#[]⟩, .int .i64 0, .int .i64 0, .int .i64 0, .int .i64 0, .slice none 0 0, .int .i64 0, .int .i64 0, .slice none 0 0, .slice none 0 0, .slice none 0 0]
  have HB0 : Hid (Below w.heap.size w W) := Lib.hid (by rw [hW]; exact ((Below.refl _ _).alloc (Nat.le_refl _) _).alloc (by simp) _)
  have y0 : w.heap.size + 2 ≤ W.heap.size := by rw [hW]; simp
  rw [← hW]
  clear hW
  obtain ⟨⟨p0, p1, p2, p3, p4, p5, p6, p7, p8, p9, p10⟩, -⟩ := b0.eleven
  have B0 := Lib.hid b0
  have B1 := Lib.hid b1
  clear b0 b1
  go_wp2_with fail
  refine (HCP.out W HB0.out).mono ?_
  rintro e w1 ⟨uh, uc, us, ul, rfl, hm1, hb1⟩
  obtain ⟨xh, xc, xs, xl, hcs, q1, q2, q3, q4⟩ := acct_rd hm1.rd
  simp only [aCells, List.cons.injEq, and_true, true_and] at hcs
  obtain ⟨rfl, rfl, rfl, rfl⟩ := hcs
  obtain ⟨A1, c1, rfl, -⟩ := Rep.slice_form q1
  obtain ⟨A3, c3, rfl, -⟩ := q2.form
  obtain ⟨A4, c4, rfl, -⟩ := q3.form
  obtain ⟨A6, c6, rfl, -⟩ := Rep.slice_form q4
  have z1 := hb1.size
  have HM1 := Lib.hid hm1
  have HB1 : Hid (Below w.heap.size w w1) := Lib.hid (HB0.out.trans (hb1.mono (by omega)))
  have C0 := Lib.hid (B0.out.below hb1 (by omega))
  have C1 := Lib.hid (B1.out.below hb1 (by omega))
  clear hm1 hb1 HB0 HCP B0 B1 q1 q2 q3 q4 p0 p1 p2 p3 p4 p5 p6 p7 p8 p9 p10
  simp only [aH, aS, aId, aLim, aPos, aMost, aSum] at HM1 ⊢
  obtain ⟨⟨p0, p1, p2, p3, p4, p5, p6, p7, p8, p9, p10⟩, -⟩ := C0.out.eleven
  go_upto_region 2 with fail
  obtain ⟨W2, hW2⟩ : ∃ W2, W2 = w1.alloc (.cells #[.string id, .int .i64 lim, .int .i64 pos, .int .i64 most, .int .i64 sum, .slice A1 hs.length c1, .int .i64 sp, .int .i64 hd, .slice A3 cs.length c3, .slice A4 ss.length c4, .slice A6 sl.length c6] 29) := ⟨_, rfl⟩
  have b2 : bk W2 w1.heap.size 29 [.string id, .int .i64 lim, .int .i64 pos, .int .i64 most, .int .i64 sum, .slice A1 hs.length c1, .int .i64 sp, .int .i64 hd, .slice A3 cs.length c3, .slice A4 ss.length c4, .slice A6 sl.length c6] := by rw [hW2]; exact bk.new w1 _ _
  have hb2 : Below w1.heap.size w1 W2 := by rw [hW2]; exact (Below.refl _ _).alloc (Nat.le_refl _) _
  rw [← hW2]
  clear hW2
  have z2 := b2.lt
  have B0 := Lib.hid (C0.out.below hb2 (by omega))
  have B1 := Lib.hid (C1.out.below hb2 (by omega))
  have B2 := Lib.hid b2
  have HM2 := Lib.hid (HM1.out.below hb2 (Nat.le_refl _))
  have HB2 : Hid (Below w.heap.size w W2) := Lib.hid (HB1.out.trans (hb2.mono (by omega)))
  clear hb2 b2 C0 C1 HM1 HB1 p0 p1 p2 p3 p4 p5 p6 p7 p8 p9 p10
  obtain ⟨⟨p0, p1, p2, p3, p4, p5, p6, p7, p8, p9, p10⟩, -⟩ := B0.out.eleven
  go_wp2_with fail
  refine (HOK.out W2 HB2.out).mono ?_
  rintro e w3 ⟨rfl, hb3⟩
  have z3 := hb3.size
  have C0 := Lib.hid (B0.out.below hb3 (by omega))
  have C1 := Lib.hid (B1.out.below hb3 (by omega))
  have C2 := Lib.hid (B2.out.below hb3 (by omega))
  have HM3 := Lib.hid (HM2.out.below hb3 (by omega))
  have HB3 : Hid (Below w.heap.size w w3) := Lib.hid (HB2.out.trans (hb3.mono (by omega)))
  clear hb3 B0 B1 B2 HM2 HB2 HOK p0 p1 p2 p3 p4 p5 p6 p7 p8 p9 p10
  cases ok
  · have HAM : Hid (am = (id, lim, pos, most, sum, hs, (sp, hd, cs, ss), sl)) := Lib.hid (by rw [HSW.out]; rfl)
    clear HSW HTM HLV
    have b1 := C1.out
    have b2 := C2.out
    clear C0 C1 C2
    obtain ⟨⟨p0, p1, p2, p3, p4, p5, p6, p7, p8, p9, p10⟩, -⟩ := b2.eleven
    obtain ⟨⟨r0, r1, r2, r3, r4, r5, r6, r7, r8, r9, r10⟩, g0, g1, g2, g3, g4, g5, g6, g7, g8, g9, g10⟩ := b1.eleven
    clear b1 b2
    go_wp2
    refine bodyPost_ret (v := .agg #[.string id, .int .i64 lim, .int .i64 pos, .int .i64 most, .int .i64 sum, .slice A1 hs.length c1, .int .i64 sp, .int .i64 hd, .slice A3 cs.length c3, .slice A4 ss.length c4, .slice A6 sl.length c6]) (by simp [results, Tryz.results33, go_sem, r0, r1, r2, r3, r4, r5, r6, r7, r8, r9, r10]) rfl ?_
    have ht := (((((((((((Turned.refl w.heap.size (w.heap.size + 2) w3).set (b := w.heap.size + 1) 0 (.string id) (by omega) (by omega)).set (b := w.heap.size + 1) 1 (.int .i64 lim) (by omega) (by omega)).set (b := w.heap.size + 1) 2 (.int .i64 pos) (by omega) (by omega)).set (b := w.heap.size + 1) 3 (.int .i64 most) (by omega) (by omega)).set (b := w.heap.size + 1) 4 (.int .i64 sum) (by omega) (by omega)).set (b := w.heap.size + 1) 5 (.slice A1 hs.length c1) (by omega) (by omega)).set (b := w.heap.size + 1) 6 (.int .i64 sp) (by omega) (by omega)).set (b := w.heap.size + 1) 7 (.int .i64 hd) (by omega) (by omega)).set (b := w.heap.size + 1) 8 (.slice A3 cs.length c3) (by omega) (by omega)).set (b := w.heap.size + 1) 9 (.slice A4 ss.length c4) (by omega) (by omega)).set (b := w.heap.size + 1) 10 (.slice A6 sl.length c6) (by omega) (by omega)
    have hsz := ht.size
    rw [HAM.out]
    exact ⟨_, _, _, _, rfl, (HM3.out.turned ht (.inr (by omega)) (by omega)).mono (by omega) (by omega), HB3.out.trans (ht.below (by omega) (by omega))⟩
  · go_wp2_with fail
    refine (HTM.out w3).mono ?_
    rintro e w4 ⟨rfl, rfl⟩
    cases tm
    · have HAM : Hid (am = (id, lim, pos, most, sum, hs, (sp, hd, cs, ss), sl)) := Lib.hid (by rw [HSW.out]; rfl)
      clear HSW HTM HLV
      have b1 := C1.out
      have b2 := C2.out
      clear C0 C1 C2
      obtain ⟨⟨p0, p1, p2, p3, p4, p5, p6, p7, p8, p9, p10⟩, -⟩ := b2.eleven
      obtain ⟨⟨r0, r1, r2, r3, r4, r5, r6, r7, r8, r9, r10⟩, g0, g1, g2, g3, g4, g5, g6, g7, g8, g9, g10⟩ := b1.eleven
      clear b1 b2
      go_wp2
      refine bodyPost_ret (v := .agg #[.string id, .int .i64 lim, .int .i64 pos, .int .i64 most, .int .i64 sum, .slice A1 hs.length c1, .int .i64 sp, .int .i64 hd, .slice A3 cs.length c3, .slice A4 ss.length c4, .slice A6 sl.length c6]) (by simp [results, Tryz.results33, go_sem, r0, r1, r2, r3, r4, r5, r6, r7, r8, r9, r10]) rfl ?_
      have ht := (((((((((((Turned.refl w.heap.size (w.heap.size + 2) w3).set (b := w.heap.size + 1) 0 (.string id) (by omega) (by omega)).set (b := w.heap.size + 1) 1 (.int .i64 lim) (by omega) (by omega)).set (b := w.heap.size + 1) 2 (.int .i64 pos) (by omega) (by omega)).set (b := w.heap.size + 1) 3 (.int .i64 most) (by omega) (by omega)).set (b := w.heap.size + 1) 4 (.int .i64 sum) (by omega) (by omega)).set (b := w.heap.size + 1) 5 (.slice A1 hs.length c1) (by omega) (by omega)).set (b := w.heap.size + 1) 6 (.int .i64 sp) (by omega) (by omega)).set (b := w.heap.size + 1) 7 (.int .i64 hd) (by omega) (by omega)).set (b := w.heap.size + 1) 8 (.slice A3 cs.length c3) (by omega) (by omega)).set (b := w.heap.size + 1) 9 (.slice A4 ss.length c4) (by omega) (by omega)).set (b := w.heap.size + 1) 10 (.slice A6 sl.length c6) (by omega) (by omega)
      have hsz := ht.size
      rw [HAM.out]
      exact ⟨_, _, _, _, rfl, (HM3.out.turned ht (.inr (by omega)) (by omega)).mono (by omega) (by omega), HB3.out.trans (ht.below (by omega) (by omega))⟩
    · have HAM : Hid (am = (id, lim, pos, most, sum, ls, (sp, hd, cs, ss), sl)) := Lib.hid (by rw [HSW.out]; rfl)
      clear HSW HTM
      obtain ⟨⟨p0, p1, p2, p3, p4, p5, p6, p7, p8, p9, p10⟩, -⟩ := C0.out.eleven
      go_wp2_with fail
      refine (HLV.out w3 HB3.out).mono ?_
      rintro e w5 ⟨u, rfl, hu, hb5⟩
      obtain ⟨AN, cN, rfl, -⟩ := Rep.slice_form hu.rd
      have z5 := hb5.size
      have HM5 := Lib.hid (HM3.out.below hb5 (by omega))
      have HU5 := Lib.hid hu
      have HB5 : Hid (Below w.heap.size w w5) := Lib.hid (HB3.out.trans (hb5.mono (by omega)))
      have D1 := Lib.hid (C1.out.below hb5 (by omega))
      have D2 := Lib.hid (C2.out.below hb5 (by omega))
      clear hu hb5 HM3 HB3 HLV C0 C1 C2 p0 p1 p2 p3 p4 p5 p6 p7 p8 p9 p10
      obtain ⟨⟨p0, p1, p2, p3, p4, p5, p6, p7, p8, p9, p10⟩, f0, f1, f2, f3, f4, f5, f6, f7, f8, f9, f10⟩ := D2.out.eleven
      have hq := D2.out.set 5 (.slice AN ls.length cN)
      have ht5 := (Turned.refl w1.heap.size (w1.heap.size + 1) w5).set (b := w1.heap.size) 5 (.slice AN ls.length cN) (by omega) (by omega)
      go_upto_region 4 with fail
      obtain ⟨W6, hW6⟩ : ∃ W6, W6 = w5.setCell ⟨w1.heap.size, 5, none⟩ (.slice AN ls.length cN) := ⟨_, rfl⟩
      rw [← hW6] at hq ht5 ⊢
      clear hW6
      have z6 := ht5.size
      have HM6 := Lib.hid (swapH (HM5.out.turned ht5 (.inl (Nat.le_refl _)) (by omega)) ((HU5.out.turned ht5 (.inr (by omega)) (Nat.le_refl _)).mono (hi' := W6.heap.size) (by omega) (by omega)) (by omega) (by omega))
      have HB6 := Lib.hid (HB5.out.trans (ht5.below (B := w.heap.size) (by omega) (by omega)))
      have b1 := D1.out.under ht5 (by omega)
      have b2 : bk W6 w1.heap.size 29 [.string id, .int .i64 lim, .int .i64 pos, .int .i64 most, .int .i64 sum, .slice AN ls.length cN, .int .i64 sp, .int .i64 hd, .slice A3 cs.length c3, .slice A4 ss.length c4, .slice A6 sl.length c6] := hq
      clear hq ht5 HM5 HU5 HB5 D1 D2 p0 p1 p2 p3 p4 p5 p6 p7 p8 p9 p10 f0 f1 f2 f3 f4 f5 f6 f7 f8 f9 f10
      simp only [setH, aId, aLim, aPos, aMost, aSum, aR, aS] at HM6
      obtain ⟨⟨p0, p1, p2, p3, p4, p5, p6, p7, p8, p9, p10⟩, -⟩ := b2.eleven
      obtain ⟨⟨r0, r1, r2, r3, r4, r5, r6, r7, r8, r9, r10⟩, g0, g1, g2, g3, g4, g5, g6, g7, g8, g9, g10⟩ := b1.eleven
      clear b1 b2
      go_wp2
      refine bodyPost_ret (v := .agg #[.string id, .int .i64 lim, .int .i64 pos, .int .i64 most, .int .i64 sum, .slice AN ls.length cN, .int .i64 sp, .int .i64 hd, .slice A3 cs.length c3, .slice A4 ss.length c4, .slice A6 sl.length c6]) (by simp [results, Tryz.results33, go_sem, r0, r1, r2, r3, r4, r5, r6, r7, r8, r9, r10]) rfl ?_
      have ht := (((((((((((Turned.refl w.heap.size (w.heap.size + 2) W6).set (b := w.heap.size + 1) 0 (.string id) (by omega) (by omega)).set (b := w.heap.size + 1) 1 (.int .i64 lim) (by omega) (by omega)).set (b := w.heap.size + 1) 2 (.int .i64 pos) (by omega) (by omega)).set (b := w.heap.size + 1) 3 (.int .i64 most) (by omega) (by omega)).set (b := w.heap.size + 1) 4 (.int .i64 sum) (by omega) (by omega)).set (b := w.heap.size + 1) 5 (.slice AN ls.length cN) (by omega) (by omega)).set (b := w.heap.size + 1) 6 (.int .i64 sp) (by omega) (by omega)).set (b := w.heap.size + 1) 7 (.int .i64 hd) (by omega) (by omega)).set (b := w.heap.size + 1) 8 (.slice A3 cs.length c3) (by omega) (by omega)).set (b := w.heap.size + 1) 9 (.slice A4 ss.length c4) (by omega) (by omega)).set (b := w.heap.size + 1) 10 (.slice A6 sl.length c6) (by omega) (by omega)
      have hsz := ht.size
      rw [HAM.out]
      exact ⟨_, _, _, _, rfl, (HM6.out.turned ht (.inr (by omega)) (by omega)).mono (by omega) (by omega), HB6.out.trans (ht.below (by omega) (by omega))⟩
end Go.Proofs.YtnmijppppcgobaaGreatDoor
set_option linter.unusedVariables false
namespace Go.Proofs.YtnmijppppcgobaaGreatDoor
open Go.ChangeShapes Go.WideShapes Go.ChangeAt Go.RowKit

set_option maxRecDepth 100000 in
theorem satVal_range (a b : Int) : 0 ≤ satVal a b ∧ satVal a b ≤ 4611686018427387904 := by
  unfold satVal
  split
  · rename_i h
    simp only [addOk, isMon, Bool.and_eq_true, decide_eq_true_eq] at h
    omega
  · omega
set_option maxRecDepth 100000 in
theorem storedL_range (l : List HoldD) : 0 ≤ storedL l ∧ storedL l ≤ 4611686018427387904 := by
  unfold storedL
  have h : ∀ (l : List HoldD) (n : Int), 0 ≤ n ∧ n ≤ 4611686018427387904 → 0 ≤ l.foldl (fun n x => satVal n x.2.1) n ∧ l.foldl (fun n x => satVal n x.2.1) n ≤ 4611686018427387904 := by
    intro l
    induction l with
    | nil => intro n h; exact h
    | cons x l ih => intro n _; exact ih _ (satVal_range _ _)
  exact h l 0 (by omega)
def roomOf (a : AcctD) (now : Int) : Int := if (acctOk a && timeB now) = true then aLim a - aPos a - storedL (liveL (aH a) now) else 0
set_option maxRecDepth 100000 in
theorem acctOk_nums {a : AcctD} (h : acctOk a = true) : 0 ≤ aLim a ∧ aLim a ≤ 9007199254740992 ∧ 0 ≤ aPos a ∧ aPos a ≤ 4611686018427387904 := by
  unfold acctOk acctHead inB isMon at h
  simp only [Bool.and_eq_true, decide_eq_true_eq] at h
  omega
set_option maxRecDepth 100000 in
set_option maxHeartbeats 8000000 in
theorem specRoom_any (hi : Nat) (vh vc vs vl : Value) (a : AcctD) (now : Int) (w : World) (hz : acctSmall 1048576 a) (hbig : acctBig a) (h : AcctR.rd hi w (aCells a vh vc vs vl) a) (hh : hi ≤ w.heap.size) :
    Calls Tryz.prog 107 #[.agg #[.string (aId a), .int .i64 (aLim a), .int .i64 (aPos a), .int .i64 (aMost a), .int .i64 (aSum a), vh, .int .i64 (aR a).1, .int .i64 (aR a).2.1, vc, vs, vl], .int .i64 now] w fun e w' => e = .returned (.int .i64 (roomOf a now)) ∧ Below w.heap.size w w' := by
  have HOK := Lib.hid (fun W (hW : Below w.heap.size w W) => specAcctOk_any hi vh vc vs vl a W hz hbig (Rep.below (R := AcctR) h hW hh) (Nat.le_trans hh hW.size))
  obtain ⟨vh0, vc0, vs0, vl0, hcs, r1, r2, r3, r4⟩ := acct_rd h
  simp only [aCells, List.cons.injEq, and_true, true_and] at hcs
  obtain ⟨rfl, rfl, rfl, rfl⟩ := hcs
  clear h
  have HLV := Lib.hid (fun W (hW : Below w.heap.size w W) => specLiveSum_any hi _ (aH a) now W hz.h (Rep.below (R := HoldsR) r1 hW hh) (Nat.le_trans hh hW.size))
  have HTM := Lib.hid (fun W => specTime_any now W)
  obtain ⟨AH, cH, rfl, -⟩ := Rep.slice_form r1
  have HRO : Hid (roomOf a now = if (acctOk a && timeB now) = true then aLim a - aPos a - storedL (liveL (aH a) now) else 0) := Lib.hid rfl
  have HNU := Lib.hid (fun hk => acctOk_nums (a := a) hk)
  obtain ⟨sr0, sr1⟩ := storedL_range (liveL (aH a) now)
  clear r1 r2 r3 r4 hz hbig
  generalize acctOk a = ok at HOK HRO HNU
  generalize timeB now = tm at HTM HRO
  generalize storedL (liveL (aH a) now) = st at HLV HRO sr0 sr1
  generalize roomOf a now = rm at HRO ⊢
  obtain ⟨id, lim, pos, most, sum, hs, ⟨rs, rh, cs, ss⟩, sl⟩ := a
  simp only [aId, aLim, aPos, aMost, aSum, aH] at HOK HLV HRO HNU ⊢
  go_enter Tryz.func107, Tryz.ntmps107
  go_upto_region 1 with fail
  obtain ⟨W, hW⟩ : ∃ W, W = w.alloc (.cells #[.string id, .int .i64 lim, .int .i64 pos, .int .i64 most, .int .i64 sum, .slice AH hs.length cH, .int .i64 rs, .int .i64 rh, vc, vs, vl] 29) := ⟨_, rfl⟩
  have bb : bk W w.heap.size 29 [.string id, .int .i64 lim, .int .i64 pos, .int .i64 most, .int .i64 sum, .slice AH hs.length cH, .int .i64 rs, .int .i64 rh, vc, vs, vl] := by rw [hW]; exact bk.new w _ _
  have HBW : Hid (Below w.heap.size w W) := Lib.hid (by rw [hW]; exact (Below.refl _ _).alloc (Nat.le_refl _) _)
  have x0 : w.heap.size + 1 ≤ W.heap.size := by rw [hW]; simp
  rw [← hW]
  clear hW
  obtain ⟨⟨p0, p1, p2, p3, p4, p5, p6, p7, p8, p9, p10⟩, -⟩ := bb.eleven
  have B0 := Lib.hid bb
  clear bb
  go_wp2_with fail
  refine (HOK.out W HBW.out).mono ?_
  rintro e W3 ⟨rfl, hb3⟩
  have x3 := hb3.size
  have HB3 : Hid (Below w.heap.size w W3) := Lib.hid (HBW.out.trans (hb3.mono (by omega)))
  have B3 := Lib.hid (B0.out.below hb3 (by omega))
  clear hb3 HBW p0 p1 p2 p3 p4 p5 p6 p7 p8 p9 p10 B0
  cases ok
  · have HN := Lib.hid (HRO.out.trans (show _ = (0 : Int) by simp))
    go_wp2
    go_ret
    exact ⟨by rw [HN.out]; rfl, HB3.out⟩
  go_wp2_with fail
  refine (HTM.out _).mono ?_
  rintro e w1 ⟨rfl, rfl⟩
  cases tm
  · have HN := Lib.hid (HRO.out.trans (show _ = (0 : Int) by simp))
    go_wp2
    go_ret
    exact ⟨by rw [HN.out]; rfl, HB3.out⟩
  obtain ⟨k1, k2, k3, k4⟩ := HNU.out (by trivial)
  have HN : Hid (rm = lim - pos - st) := Lib.hid (HRO.out.trans (by simp))
  clear HRO HOK HTM HNU
  obtain ⟨⟨p0, p1, p2, p3, p4, p5, p6, p7, p8, p9, p10⟩, -⟩ := B3.out.eleven
  go_upto_region 3 with fail
  have HX : Hid (Ext W3 W3.drew) := Lib.hid (Ext.refl W3).drew
  have HBX : Hid (∀ W, Ext W3 W → Below w.heap.size w W) := Lib.hid fun W hW => HB3.out.trans (hW.below.mono (by omega))
  have P1 := Lib.hid p1
  have P2 := Lib.hid p2
  have P5 := Lib.hid p5
  clear p0 p1 p2 p3 p4 p5 p6 p7 p8 p9 p10
  refine quiet_region (C := Ext W3) (by kernel_rfl) (by kernel_rfl) HX.out ?_
  repeat (first
    | go_big_quiet_skip
    | (go_big_quiet_want; go_big_quiet_op; go_big_quiet_on)
    | (go_big_quiet_want; go_big_quiet_op; apply Exists.intro; refine ⟨fun _ _ => rfl, ?_⟩; go_big_quiet_on)
    | (go_big_quiet_want
       apply Exists.intro
       refine ⟨fun W hW => ?_, ?_⟩
       (have q1 := hW.cell P1.out (by omega)
        have q2 := hW.cell P2.out (by omega)
        have q5 := hW.cell P5.out (by omega)
        unfold Oper.quietAt
        go_simp
        rfl)
       simp only [Act.put, List.setIfInBounds_toArray, List.set_cons_zero, List.set_cons_succ]
       go_big_quiet_on)
    | (go_big_quiet_want
       apply Exists.intro
       refine ⟨fun W hW => ?_, ?_⟩
       (unfold Oper.quietAt
        go_simp
        go_at_call 186
        refine (HLV.out W (HBX.out W hW)).mono ?_
        rintro e w4 ⟨rfl, hb4⟩
        exact ⟨rfl, hW.step hb4⟩)
       simp only [Act.put, List.setIfInBounds_toArray, List.set_cons_zero, List.set_cons_succ]
       go_big_quiet_on))
  refine wpQuiet_nil ?_
  intro W4 hW4
  go_wp2
  go_ret
  exact ⟨by rw [HN.out]; first | rfl | exact ret_int (by omega), HBX.out W4 hW4⟩
end Go.Proofs.YtnmijppppcgobaaGreatDoor
set_option linter.unusedVariables false
namespace Go.Proofs.YtnmijppppcgobaaGreatDoor
open Go.ChangeShapes Go.WideShapes Go.ChangeAt Go.RowKit

/-- holds as they are given back, with a word -/
def holdsRes (l : List HoldD) (ok : Bool) (w : World) (e : Ending) (w' : World) : Prop := ∃ u, e = .returned (.tuple #[u, .bool ok]) ∧ HoldsR.mine w.heap.size w'.heap.size w' [u] l ∧ Below w.heap.size w w'
set_option maxRecDepth 100000 in
theorem putH_no {l : List HoldD} {h : HoldD} (hk : holdsOk l = false) : putH l h = ([], false) := by unfold putH; rw [hk]; rfl
set_option maxRecDepth 100000 in
theorem putH_not {l : List HoldD} {h : HoldD} (hk : holdsOk (insL l h) = false) : putH l h = ([], false) := by unfold putH; rw [hk, Bool.and_false]; rfl
set_option maxRecDepth 100000 in
theorem putH_yes {l : List HoldD} {h : HoldD} (h1 : holdsOk l = true) (hk : holdsOk (insL l h) = true) : putH l h = (insL l h, true) := by unfold putH; rw [h1, hk]; rfl
set_option maxRecDepth 100000 in
theorem putH_len (l : List HoldD) (h : HoldD) : (putH l h).1.length ≤ 4 := by
  unfold putH
  split
  · rename_i h1
    simp only [Bool.and_eq_true] at h1
    have h2 := h1.2
    unfold holdsOk at h2
    simp only [Bool.and_eq_true, decide_eq_true_eq] at h2
    exact h2.2
  · exact Nat.zero_le _
def insTo (l : List HoldD) (h : HoldD) (i : Nat) : List HoldD × Bool := (l.take i).foldl (insOne h) ([], false)
set_option maxRecDepth 100000 in
theorem insTo_next {l : List HoldD} {h x : HoldD} {i : Nat} (hx : l[i]? = some x) : insTo l h (i + 1) = insOne h (insTo l h i) x := by
  obtain ⟨hi, rfl⟩ := List.getElem?_eq_some_iff.1 hx
  unfold insTo
  rw [List.take_succ_eq_append_getElem hi, List.foldl_append]; rfl
set_option maxRecDepth 100000 in
theorem insTo_end (l : List HoldD) (h : HoldD) : insL l h = if (insTo l h l.length).2 = true then (insTo l h l.length).1 else (insTo l h l.length).1 ++ [h] := by
  unfold insL insTo
  rw [List.take_length]

set_option maxRecDepth 100000 in
set_option maxHeartbeats 6400000 in
theorem specHoldPut_any (hi : Nat) (v : Value) (l : List HoldD) (h : HoldD) (w : World) (hn : l.length ≤ 1048576) (hs : ∀ x ∈ l, x.1.size ≤ maxLen) (hhs : h.1.size ≤ maxLen) (hr : HoldsR.rd hi w [v] l) (hh : hi ≤ w.heap.size) :
    Calls Tryz.prog 92 #[v, .agg #[.string h.1, .int .i64 h.2.1, .int .i64 h.2.2]] w (holdsRes (putH l h).1 (putH l h).2 w) := by
  have HOK := Lib.hid (fun W (hW : Below w.heap.size w W) => specHoldsOk_any hi v l W hn hs (Rep.below (R := HoldsR) hr hW hh) (Nat.le_trans hh hW.size))
  obtain ⟨A, c, rfl, hc, hr⟩ := holds_rd hr
  have HR := Lib.hid hr
  have HS := Lib.hid hs
  have HHS := Lib.hid hhs
  have HNO : Hid (holdsOk l = false → putH l h = ([], false)) := Lib.hid putH_no
  have HYES := Lib.hid (fun h1 => @putH_yes l h h1)
  have HNOT := Lib.hid (@putH_not l h)
  have HL4 : Hid (holdsOk l = true → l.length ≤ 4) := Lib.hid (fun h1 => by unfold holdsOk at h1; simp only [Bool.and_eq_true, decide_eq_true_eq] at h1; exact h1.2)
  clear hr hs
  generalize holdsOk l = ok at HOK HNO HYES HL4
  go_enter Tryz.func92, Tryz.ntmps92
  go_upto_region 1 with fail
  obtain ⟨W, hW⟩ : ∃ W, W = w.alloc (.cells #[.string h.1, .int .i64 h.2.1, .int .i64 h.2.2] 33) := ⟨_, rfl⟩
  have b0 : bk W w.heap.size 33 [.string h.1, .int .i64 h.2.1, .int .i64 h.2.2] := by rw [hW]; exact bk.new w _ _
  have HB0 : Hid (Below w.heap.size w W) := Lib.hid (by rw [hW]; exact (Below.refl _ _).alloc (Nat.le_refl _) _)
  rw [← hW]
  clear hW
  have z0 := b0.lt
  go_wp2_with fail
  refine (HOK.out W HB0.out).mono ?_
  rintro e w1 ⟨rfl, hb1⟩
  have HB1 : Hid (Below w.heap.size w w1) := Lib.hid (HB0.out.trans (hb1.mono (by omega)))
  have z1 := hb1.size
  have HK1 := Lib.hid (b0.below hb1 z0)
  clear hb1 HB0 b0
  cases ok
  · go_wp2
    refine bodyPost_ret (v := .tuple #[.slice none 0 0, .bool false]) (by simp [results, Tryz.results92, go_sem]) rfl ?_
    rw [HNO.out trivial]
    exact ⟨_, rfl, holds_none _ _ _, HB1.out⟩
  go_upto_region 4 with fail
  obtain ⟨W2, hW2⟩ : ∃ W2, W2 = w1.alloc (.cells #[] 33) := ⟨_, rfl⟩
  have HO2 : Hid (owE 33 3 hCells (w.heap.size + 1) W2 (.slice (some ⟨w1.heap.size, 0, none⟩) 0 0) []) := Lib.hid (by rw [hW2]; exact owE_empty _ _ _ _ _ (by omega))
  have HB2 : Hid (Below w.heap.size w W2) := Lib.hid (by rw [hW2]; exact HB1.out.alloc (by omega) _)
  have HK2 : Hid (bk W2 w.heap.size 33 [.string h.1, .int .i64 h.2.1, .int .i64 h.2.2]) := Lib.hid (by rw [hW2]; exact HK1.out.alloc _)
  have z2 : w1.heap.size < W2.heap.size := by rw [hW2]; simp
  rw [← hW2]
  clear hW2 HB1 HK1
  go_wp2
  go_loopw [6, 7, 16] (fun ov dv iv wr => ∃ (i : Nat) (A' : Option Addr) (c' : Nat) (s : List HoldD) (d : Bool), i ≤ l.length ∧ iv = .int .i64 i ∧ ov = .slice A' s.length c' ∧ dv = .bool d ∧ s.length ≤ 2 * i ∧ Hid (insTo l h i = (s, d)) ∧ Hid (∀ x ∈ s, x.1.size ≤ maxLen) ∧ Hid (owE 33 3 hCells (w.heap.size + 1) wr (.slice A' s.length c') s) ∧ Hid (bk wr w.heap.size 33 [.string h.1, .int .i64 h.2.1, .int .i64 h.2.2]) ∧ Hid (Below w.heap.size w wr) ∧ w.heap.size < wr.heap.size) (fun _ _ iv _ => l.length - (intOf iv).toNat)
  case atStart => exact ⟨0, _, _, [], false, Nat.zero_le _, rfl, rfl, rfl, Nat.zero_le _, Lib.hid rfl, Lib.hid (by simp), HO2, HK2, HB2, by omega⟩
  case round =>
    obtain ⟨i, A', c', s, d, hi', rfl, rfl, rfl, hsl, HI, HSS, HO, HK, HB, hz⟩ := hrel
    by_cases hin : i < l.length
    · obtain ⟨x, hx⟩ : ∃ x, l[i]? = some x := ⟨_, List.getElem?_eq_getElem hin⟩
      obtain ⟨b, off, rfl, hbl, c0, c1, c2⟩ := HR.out i x hx
      have c0 := (HB.out.cell (p := ⟨b, off + i * 3, none⟩) (show b < w.heap.size by omega)).trans c0
      have c1 := (HB.out.cell (p := ⟨b, off + i * 3 + 1, none⟩) (show b < w.heap.size by omega)).trans c1
      have c2 := (HB.out.cell (p := ⟨b, off + i * 3 + 2, none⟩) (show b < w.heap.size by omega)).trans c2
      have g1 : (i : Int) < (l.length : Int) := by omega
      have g2 : 0 ≤ (i : Int) := by omega
      have HXS := Lib.hid (HS.out x (List.mem_of_getElem? hx))
      have HIN : Hid (insTo l h (i + 1) = insOne h (s, d) x) := Lib.hid (by rw [insTo_next hx, HI.out])
      clear hx
      go_upto_region 8 with fail
      obtain ⟨W3, hW3⟩ : ∃ W3, W3 = wr.alloc (.cells #[.string x.1, .int .i64 x.2.1, .int .i64 x.2.2] 33) := ⟨_, rfl⟩
      have HO3 : Hid (owE 33 3 hCells (w.heap.size + 1) W3 (.slice A' s.length c') s) := Lib.hid (by rw [hW3]; exact HO.out.alloc _)
      have HK3 : Hid (bk W3 w.heap.size 33 [.string h.1, .int .i64 h.2.1, .int .i64 h.2.2]) := Lib.hid (by rw [hW3]; exact HK.out.alloc _)
      have HX3 : Hid (bk W3 wr.heap.size 33 [.string x.1, .int .i64 x.2.1, .int .i64 x.2.2]) := Lib.hid (by rw [hW3]; exact bk.new wr _ _)
      have HB3 : Hid (Below w.heap.size w W3) := Lib.hid (by rw [hW3]; exact HB.out.alloc (by omega) _)
      have HAP : Hid (∀ g, (Value.slice A' s.length c').ownBlock = some g → w.heap.size < g ∧ g < wr.heap.size) := Lib.hid (fun g hg => by have := HO.out.lt g hg; omega)
      have z3 : wr.heap.size < W3.heap.size := by rw [hW3]; simp
      rw [← hW3]
      clear hW3 HO HK HB c0 c1 c2
      obtain ⟨p0, p1, p2⟩ := HK3.out.cells3
      obtain ⟨q0, q1, q2⟩ := HX3.out.cells3
      have hl2 : l.length ≤ 1048576 := hn
      cases d
      · cases hbl : Op.bytesLess x.1.toList h.1.toList
        · have HSB := Lib.hid hbl
          go_wp2_with (at_builtin; refine app_elem hCells 3 (fun _ => rfl) (by decide) hCells_one 23 33 #[.string ⟨#[]⟩, .int .i64 0, .int .i64 0] 32 Tryz.underlying23 infoHold rfl _ _ rfl (by rfl) (w.heap.size + 1) W3 _ s h _ _ (by rfl) (by rfl) (by rfl) (by simp) HO3.out (by unfold maxLen; omega) (by omega) (by first | omega | (simp; omega)) ?_)
          intro A5 c5 w5 hown5 hc5 hg5 hlies5
          have z5 : W3.heap.size + 1 ≤ w5.heap.size := by have := hg5.size; simpa using this
          have HK5 : Hid (bk w5 w.heap.size 33 [.string h.1, .int .i64 h.2.1, .int .i64 h.2.2]) := Lib.hid ((HK3.out.alloc _).grown hg5 (fun e => by have := HAP.out _ e; omega))
          have HX5 : Hid (bk w5 wr.heap.size 33 [.string x.1, .int .i64 x.2.1, .int .i64 x.2.2]) := Lib.hid ((HX3.out.alloc _).grown hg5 (fun e => by have := HAP.out _ e; omega))
          have HB5 : Hid (Below w.heap.size w w5) := Lib.hid ((HB3.out.alloc (by omega) _).grown hg5 (by simp; omega) (fun g hg' => by have := HAP.out g hg'; omega))
          obtain ⟨s5, hs5⟩ : ∃ s5, s5 = s ++ [h] := ⟨_, rfl⟩
          have hl5 : s.length + 1 = s5.length := by rw [hs5]; simp
          rw [← hs5] at hown5
          have HS5 : Hid (∀ y ∈ s5, y.1.size ≤ maxLen) := Lib.hid (fun y hy => by rw [hs5] at hy; exact (List.mem_append.1 hy).elim (HSS.out y) (fun hy => by rw [List.mem_singleton.1 hy]; exact HHS.out))
          have hsl5 : s5.length ≤ 2 * i + 1 := by omega
          rw [hl5] at hown5 ⊢
          have HO5 := Lib.hid hown5
          have HQQ := Lib.hid hs5
          clear hown5 hg5 hlies5 p0 p1 p2 q0 q1 q2 hs5 hl5
          obtain ⟨p0, p1, p2⟩ := HK5.out.cells3
          obtain ⟨q0, q1, q2⟩ := HX5.out.cells3
          go_upto_region 11 with fail
          clear hbl
          by_cases he : x.1 = h.1
          · have hel : x.1.toList = h.1.toList := by rw [he]
            have HEQ : Hid (x.1 = h.1) := Lib.hid he
            clear he
            go_wp2
            go_roundw
            case rel => exact ⟨i + 1, A5, c5, s5, true, by omega, by go_num, rfl, rfl, by omega, Lib.hid (by rw [HIN.out]; rw [HQQ.out]; unfold insOne strLt; rw [HSB.out]; simp [HEQ.out]), HS5, HO5, HK5, HB5, by omega⟩
            case measure => simp [intOf] <;> omega
          · have hel : ¬ x.1.toList = h.1.toList := fun e => he (str_eq_list.1 e)
            have hel2 : (x.1.toList == h.1.toList) = false := by simpa using hel
            have HEQ : Hid (¬ x.1 = h.1) := Lib.hid he
            clear he
            go_wp2_with (at_builtin; refine app_elem hCells 3 (fun _ => rfl) (by decide) hCells_one 23 33 #[.string ⟨#[]⟩, .int .i64 0, .int .i64 0] 32 Tryz.underlying23 infoHold rfl _ _ rfl (by rfl) (w.heap.size + 1) w5 _ s5 x _ _ (by rfl) (by rfl) (by rfl) (by simp) HO5.out (by unfold maxLen; omega) (by omega) (by first | omega | (simp; omega)) ?_)
            intro A9 c9 w9 hown9 hc9 hg9 hlies9
            have z9 : w5.heap.size + 1 ≤ w9.heap.size := by have := hg9.size; simpa using this
            have HK9 : Hid (bk w9 w.heap.size 33 [.string h.1, .int .i64 h.2.1, .int .i64 h.2.2]) := Lib.hid ((HK5.out.alloc _).grown hg9 (fun e => by have := HO5.out.lt _ e; omega))
            have HB9 : Hid (Below w.heap.size w w9) := Lib.hid ((HB5.out.alloc (by omega) _).grown hg9 (by simp; omega) (fun g hg' => by have := HO5.out.lt g hg'; omega))
            have HS9 : Hid (∀ y ∈ s5 ++ [x], y.1.size ≤ maxLen) := Lib.hid (fun y hy => (List.mem_append.1 hy).elim (HS5.out y) (fun hy => by rw [List.mem_singleton.1 hy]; exact HXS.out))
            have HO9 := Lib.hid hown9
            clear hown9 hg9 hlies9
            go_wp2
            go_roundw
            case rel => exact ⟨i + 1, A9, c9, s5 ++ [x], true, by omega, by go_num, by simp, rfl, by simp; omega, Lib.hid (by rw [HIN.out]; rw [HQQ.out]; unfold insOne strLt; rw [HSB.out]; simp [HEQ.out]), HS9, Lib.hid (by simpa using HO9.out), HK9, HB9, by omega⟩
            case measure => simp [intOf] <;> omega
        · have HSB := Lib.hid hbl
          go_upto_region 11 with fail
          clear hbl
          by_cases he : x.1 = h.1
          · have hel : x.1.toList = h.1.toList := by rw [he]
            have HEQ : Hid (x.1 = h.1) := Lib.hid he
            clear he
            go_wp2
            go_roundw
            case rel => exact ⟨i + 1, A', c', s, false, by omega, by go_num, rfl, rfl, by omega, Lib.hid (by rw [HIN.out]; unfold insOne strLt; rw [HSB.out]; simp [HEQ.out]), HSS, HO3, HK3, HB3, by omega⟩
            case measure => simp [intOf] <;> omega
          · have hel : ¬ x.1.toList = h.1.toList := fun e => he (str_eq_list.1 e)
            have hel2 : (x.1.toList == h.1.toList) = false := by simpa using hel
            have HEQ : Hid (¬ x.1 = h.1) := Lib.hid he
            clear he
            go_wp2_with (at_builtin; refine app_elem hCells 3 (fun _ => rfl) (by decide) hCells_one 23 33 #[.string ⟨#[]⟩, .int .i64 0, .int .i64 0] 32 Tryz.underlying23 infoHold rfl _ _ rfl (by rfl) (w.heap.size + 1) W3 _ s x _ _ (by rfl) (by rfl) (by rfl) (by simp) HO3.out (by unfold maxLen; omega) (by omega) (by first | omega | (simp; omega)) ?_)
            intro A9 c9 w9 hown9 hc9 hg9 hlies9
            have z9 : W3.heap.size + 1 ≤ w9.heap.size := by have := hg9.size; simpa using this
            have HK9 : Hid (bk w9 w.heap.size 33 [.string h.1, .int .i64 h.2.1, .int .i64 h.2.2]) := Lib.hid ((HK3.out.alloc _).grown hg9 (fun e => by have := HO3.out.lt _ e; omega))
            have HB9 : Hid (Below w.heap.size w w9) := Lib.hid ((HB3.out.alloc (by omega) _).grown hg9 (by simp; omega) (fun g hg' => by have := HO3.out.lt g hg'; omega))
            have HS9 : Hid (∀ y ∈ s ++ [x], y.1.size ≤ maxLen) := Lib.hid (fun y hy => (List.mem_append.1 hy).elim (HSS.out y) (fun hy => by rw [List.mem_singleton.1 hy]; exact HXS.out))
            have HO9 := Lib.hid hown9
            clear hown9 hg9 hlies9
            go_wp2
            go_roundw
            case rel => exact ⟨i + 1, A9, c9, s ++ [x], false, by omega, by go_num, by simp, rfl, by simp; omega, Lib.hid (by rw [HIN.out]; unfold insOne strLt; rw [HSB.out]; simp [HEQ.out]), HS9, Lib.hid (by simpa using HO9.out), HK9, HB9, by omega⟩
            case measure => simp [intOf] <;> omega
      · go_upto_region 11 with fail
        by_cases he : x.1 = h.1
        · have hel : x.1.toList = h.1.toList := by rw [he]
          have HEQ : Hid (x.1 = h.1) := Lib.hid he
          clear he
          go_wp2
          go_roundw
          case rel => exact ⟨i + 1, A', c', s, true, by omega, by go_num, rfl, rfl, by omega, Lib.hid (by rw [HIN.out]; unfold insOne strLt; simp [HEQ.out]), HSS, HO3, HK3, HB3, by omega⟩
          case measure => simp [intOf] <;> omega
        · have hel : ¬ x.1.toList = h.1.toList := fun e => he (str_eq_list.1 e)
          have hel2 : (x.1.toList == h.1.toList) = false := by simpa using hel
          have HEQ : Hid (¬ x.1 = h.1) := Lib.hid he
          clear he
          go_wp2_with (at_builtin; refine app_elem hCells 3 (fun _ => rfl) (by decide) hCells_one 23 33 #[.string ⟨#[]⟩, .int .i64 0, .int .i64 0] 32 Tryz.underlying23 infoHold rfl _ _ rfl (by rfl) (w.heap.size + 1) W3 _ s x _ _ (by rfl) (by rfl) (by rfl) (by simp) HO3.out (by unfold maxLen; omega) (by omega) (by first | omega | (simp; omega)) ?_)
          intro A9 c9 w9 hown9 hc9 hg9 hlies9
          have z9 : W3.heap.size + 1 ≤ w9.heap.size := by have := hg9.size; simpa using this
          have HK9 : Hid (bk w9 w.heap.size 33 [.string h.1, .int .i64 h.2.1, .int .i64 h.2.2]) := Lib.hid ((HK3.out.alloc _).grown hg9 (fun e => by have := HO3.out.lt _ e; omega))
          have HB9 : Hid (Below w.heap.size w w9) := Lib.hid ((HB3.out.alloc (by omega) _).grown hg9 (by simp; omega) (fun g hg' => by have := HO3.out.lt g hg'; omega))
          have HS9 : Hid (∀ y ∈ s ++ [x], y.1.size ≤ maxLen) := Lib.hid (fun y hy => (List.mem_append.1 hy).elim (HSS.out y) (fun hy => by rw [List.mem_singleton.1 hy]; exact HXS.out))
          have HO9 := Lib.hid hown9
          clear hown9 hg9 hlies9
          go_wp2
          go_roundw
          case rel => exact ⟨i + 1, A9, c9, s ++ [x], true, by omega, by go_num, by simp, rfl, by simp; omega, Lib.hid (by rw [HIN.out]; unfold insOne strLt; simp [HEQ.out]), HS9, Lib.hid (by simpa using HO9.out), HK9, HB9, by omega⟩
          case measure => simp [intOf] <;> omega
    · obtain rfl : i = l.length := by omega
      have hl4 : l.length ≤ 4 := HL4.out trivial
      cases d
      · obtain ⟨p0, p1, p2⟩ := HK.out.cells3
        go_wp2_with (at_builtin; refine app_elem hCells 3 (fun _ => rfl) (by decide) hCells_one 23 33 #[.string ⟨#[]⟩, .int .i64 0, .int .i64 0] 32 Tryz.underlying23 infoHold rfl _ _ rfl (by rfl) (w.heap.size + 1) wr _ s h _ _ (by rfl) (by rfl) (by rfl) (by simp) HO.out (by unfold maxLen; omega) (by omega) (by first | omega | (simp; omega)) ?_)
        intro A5 c5 w5 hown5 hc5 hg5 hlies5
        have z5 : wr.heap.size + 1 ≤ w5.heap.size := by have := hg5.size; simpa using this
        have HB5 : Hid (Below w.heap.size w w5) := Lib.hid ((HB.out.alloc (by omega) _).grown hg5 (by simp; omega) (fun g hg' => by have := HO.out.lt g hg'; omega))
        obtain ⟨s5, hs5⟩ : ∃ s5, s5 = s ++ [h] := ⟨_, rfl⟩
        have hl5 : s.length + 1 = s5.length := by rw [hs5]; simp
        rw [← hs5] at hown5
        have HS5 : Hid (∀ y ∈ s5, y.1.size ≤ maxLen) := Lib.hid (fun y hy => by rw [hs5] at hy; exact (List.mem_append.1 hy).elim (HSS.out y) (fun hy => by rw [List.mem_singleton.1 hy]; exact HHS.out))
        have HIL : Hid (insL l h = s5) := Lib.hid (by rw [insTo_end, HI.out, hs5]; rfl)
        have hsl5 : s5.length ≤ 9 := by omega
        rw [hl5] at hown5 ⊢
        have HO5 := Lib.hid hown5
        clear hown5 hg5 hlies5 p0 p1 p2 hs5 hl5
        have HM := Lib.hid (owE_holds HO5.out)
        have HQ := Lib.hid (fun W' (hW' : Below w5.heap.size w5 W') => specHoldsOk_any w5.heap.size _ s5 W' (by omega) HS5.out (Rep.below (R := HoldsR) HM.out.rd hW' (Nat.le_refl _)) hW'.size)
        have HNOTS := HNOT
        rw [HIL.out] at HNOTS HYES
        generalize holdsOk s5 = ok2 at HQ HNOTS HYES
        go_wp2_with fail
        refine (HQ.out w5 (Below.refl _ _)).mono ?_
        rintro e w9 ⟨rfl, hb9⟩
        have HB9 : Hid (Below w.heap.size w w9) := Lib.hid (HB5.out.trans (hb9.mono (by omega)))
        have HM9 := Lib.hid (HM.out.below hb9 (Nat.le_refl _))
        have z9 := hb9.size
        clear hb9
        cases ok2
        · go_wp2
          refine bodyPost_ret (v := .tuple #[.slice none 0 0, .bool false]) (by simp [results, Tryz.results92, go_sem]) rfl ?_
          rw [HNOTS.out trivial]
          exact ⟨_, rfl, holds_none _ _ _, HB9.out⟩
        · go_wp2
          refine bodyPost_ret (v := .tuple #[.slice A5 s5.length c5, .bool true]) (by simp [results, Tryz.results92, go_sem]) rfl ?_
          rw [HYES.out trivial trivial]
          exact ⟨_, rfl, HM9.out.mono (by omega) (by omega), HB9.out⟩
      · have HIL : Hid (insL l h = s) := Lib.hid (by rw [insTo_end, HI.out]; rfl)
        have HM := Lib.hid (owE_holds HO.out)
        have HQ := Lib.hid (fun W' (hW' : Below wr.heap.size wr W') => specHoldsOk_any wr.heap.size _ s W' (by omega) HSS.out (Rep.below (R := HoldsR) HM.out.rd hW' (Nat.le_refl _)) hW'.size)
        have HNOTS := HNOT
        rw [HIL.out] at HNOTS HYES
        generalize holdsOk s = ok2 at HQ HNOTS HYES
        go_wp2_with fail
        refine (HQ.out wr (Below.refl _ _)).mono ?_
        rintro e w9 ⟨rfl, hb9⟩
        have HB9 : Hid (Below w.heap.size w w9) := Lib.hid (HB.out.trans (hb9.mono (by omega)))
        have HM9 := Lib.hid (HM.out.below hb9 (Nat.le_refl _))
        have z9 := hb9.size
        clear hb9
        cases ok2
        · go_wp2
          refine bodyPost_ret (v := .tuple #[.slice none 0 0, .bool false]) (by simp [results, Tryz.results92, go_sem]) rfl ?_
          rw [HNOTS.out trivial]
          exact ⟨_, rfl, holds_none _ _ _, HB9.out⟩
        · go_wp2
          refine bodyPost_ret (v := .tuple #[.slice A' s.length c', .bool true]) (by simp [results, Tryz.results92, go_sem]) rfl ?_
          rw [HYES.out trivial trivial]
          exact ⟨_, rfl, HM9.out.mono (by omega) (by omega), HB9.out⟩
end Go.Proofs.YtnmijppppcgobaaGreatDoor
set_option linter.unusedVariables false
namespace Go.Proofs.YtnmijppppcgobaaGreatDoor
open Go.ChangeShapes Go.WideShapes Go.ChangeAt Go.RowKit

abbrev setP (a : AcctD) (p : Int) : AcctD := (aId a, aLim a, p, aMost a, aSum a, aH a, aR a, aS a)
def formB (a : AcctD) (id : ByteArray) (now : Int) : Bool := acctOk a && (timeB now && idOk id)
def fitsV (a : AcctD) (n now : Int) : Int := if roomOf a now < n then 7 else if aMost a < satVal (ringTotal (aR a) now false) 1 then 8 else if aSum a < satVal (ringTotal (aR a) now true) n then 9 else 0
/-- hold k with another amount -/
def amtAt (l : List HoldD) (k : Nat) (n : Int) : List HoldD := l.set k ((l.getD k noH).1, n, (l.getD k noH).2.2)
def authOn (s : AcctD) (id : ByteArray) (n ttl now : Int) : AcctD × Int :=
  if 0 ≤ findH (aH s) id then (acctNil, 6) else if (aH s).length = 4 then (acctNil, 10) else if fitsV s n now ≠ 0 then (acctNil, fitsV s n now)
  else (setR (setH s (putH (aH s) (id, n, now + ttl)).1) (ringAdd (aR s) now n), 0)
def authIn (n ttl now : Int) : Bool := inB n 1 9007199254740992 && (inB ttl 1 9999 && decide (now + ttl ≤ 1000000000))
def authL (a : AcctD) (id : ByteArray) (n ttl now : Int) : AcctD × Int :=
  if formB a id now = false then (acctNil, 1) else if authIn n ttl now = false then (acctNil, 4) else authOn (acctSwept a now) id n ttl now
def moreOn (s : AcctD) (id : ByteArray) (n now : Int) : AcctD × Int :=
  if findH (aH s) id < 0 then (acctNil, 5) else if fitsV s n now ≠ 0 then (acctNil, fitsV s n now)
  else (setR (setH s (amtAt (aH s) (findH (aH s) id).toNat (((aH s).getD (findH (aH s) id).toNat noH).2.1 + n))) (ringAdd (aR s) now n), 0)
def moreL (a : AcctD) (id : ByteArray) (n now : Int) : AcctD × Int :=
  if formB a id now = false then (acctNil, 1) else if inB n 1 9007199254740992 = false then (acctNil, 4) else moreOn (acctSwept a now) id n now
def capOn (s : AcctD) (id : ByteArray) (n : Int) (last : Bool) : AcctD × Int :=
  if findH (aH s) id < 0 then (acctNil, 5) else if ((aH s).getD (findH (aH s) id).toNat noH).2.1 < n then (acctNil, 7)
  else if (last || decide (n = ((aH s).getD (findH (aH s) id).toNat noH).2.1)) = true then (setH (setP s (aPos s + n)) (dropL (aH s) id), 0)
  else (setH (setP s (aPos s + n)) (amtAt (aH s) (findH (aH s) id).toNat (((aH s).getD (findH (aH s) id).toNat noH).2.1 - n)), 0)
def capL (a : AcctD) (id : ByteArray) (n : Int) (last : Bool) (now : Int) : AcctD × Int :=
  if formB a id now = false then (acctNil, 1) else if inB n 1 9007199254740992 = false then (acctNil, 4) else capOn (acctSwept a now) id n last
def frOn (s : AcctD) (id : ByteArray) : AcctD × Int := if findH (aH s) id < 0 then (acctNil, 5) else (setH s (dropL (aH s) id), 0)
def frL (a : AcctD) (id : ByteArray) (now : Int) : AcctD × Int := if formB a id now = false then (acctNil, 1) else frOn (acctSwept a now) id
def sweepL (a : AcctD) (now : Int) : AcctD × Int := if (acctOk a && timeB now) = false then (acctNil, 1) else (acctSwept a now, 0)
/-- an account and a code as they are given back -/
def acctResC (a : AcctD) (k : Int) (w : World) (e : Ending) (w' : World) : Prop := ∃ vh vc vs vl, e = .returned (.tuple #[.agg #[.string (aId a), .int .i64 (aLim a), .int .i64 (aPos a), .int .i64 (aMost a), .int .i64 (aSum a), vh, .int .i64 (aR a).1, .int .i64 (aR a).2.1, vc, vs, vl], .int .i64 k]) ∧ AcctR.mine w.heap.size w'.heap.size w' (aCells a vh vc vs vl) a ∧ Below w.heap.size w w'
/-- the same, the account's parts in intervals (what the program's contracts say) -/
def acctResCI (a : AcctD) (k : Int) (w : World) (e : Ending) (w' : World) : Prop := ∃ vh vc vs vl, e = .returned (.tuple #[.agg #[.string (aId a), .int .i64 (aLim a), .int .i64 (aPos a), .int .i64 (aMost a), .int .i64 (aSum a), vh, .int .i64 (aR a).1, .int .i64 (aR a).2.1, vc, vs, vl], .int .i64 k]) ∧ AcctI w.heap.size w'.heap.size w' vh vc vs vl a ∧ Below w.heap.size w w'
end Go.Proofs.YtnmijppppcgobaaGreatDoor
set_option linter.unusedVariables false
namespace Go.Proofs.YtnmijppppcgobaaGreatDoor
open Go.ChangeShapes Go.WideShapes Go.ChangeAt Go.RowKit

set_option maxRecDepth 100000 in
theorem nums_own {K : IntKind} {lo hi : Nat} {w : World} {v : Value} {l : List Int} (h : nums K lo hi w v l) : (Rep.int K).slice.own w [v] l (Proofs.YtnmijppppcgobaaGreatDoor.blk v).toList := by
  obtain ⟨A, c, rfl, hc, hj⟩ := h
  cases l with
  | nil => exact ⟨A, c, rfl, hc, .inl ⟨rfl, by cases A <;> rfl⟩⟩
  | cons y l =>
    obtain ⟨b, off, rfl, h1, h2, -, -⟩ := hj 0 (by simp)
    have hfl : List.flatten ((y :: l).map fun _ => ([] : List Nat)) = [] := by simp
    refine ⟨_, c, rfl, hc, .inr ⟨b, off, (y :: l).map fun _ => [], rfl, by rw [hfl]; rfl, by simp, fun j x G hx hG => ?_⟩⟩
    have hjl := (List.getElem?_eq_some_iff.1 hx).1
    have hG' : G = [] := by rw [List.getElem?_map, hx] at hG; simpa using hG.symm
    subst hG'
    obtain ⟨b', off', e, -, -, h3, h4⟩ := hj j hjl
    simp only [Option.some.injEq, Addr.mk.injEq, and_true] at e
    obtain ⟨rfl, rfl⟩ := e
    rw [List.getD_eq_getElem?_getD, hx] at h3
    have hk : off + j * (Rep.int K).k = off + j := by show off + j * 1 = _; rw [Nat.mul_one]
    refine ⟨[.int K x], ⟨rfl, rfl⟩, atL_one.2 (by rw [hk]; exact h3), fun t ht => ?_⟩
    have ht0 : t = 0 := by have : t < 1 := ht; omega
    subst ht0
    rw [hk]; exact h4
set_option maxRecDepth 100000 in
theorem own_nums {K : IntKind} {lo hi : Nat} {w : World} {cs : List Value} {l : List Int} {F : List Nat} (h : (Rep.int K).slice.own w cs l F) (hF : ∀ b ∈ F, lo ≤ b ∧ b < hi) : ∃ v, cs = [v] ∧ nums K lo hi w v l ∧ ∀ b, Proofs.YtnmijppppcgobaaGreatDoor.blk v = some b → b ∈ F := by
  obtain ⟨A, c, rfl, hc, h⟩ := h
  refine ⟨_, rfl, ⟨A, c, rfl, hc, fun j hl => ?_⟩, fun b hb => ?_⟩
  · rcases h with ⟨rfl, _⟩ | ⟨b, off, Fs, rfl, rfl, hFl, h⟩
    · simp at hl
    · obtain ⟨xs, hx, h2, h3⟩ := h j _ _ (List.getElem?_eq_getElem hl) (List.getElem?_eq_getElem (by omega : j < Fs.length))
      have hx' : xs = [.int K l[j]] := hx.1
      subst hx'
      have hk : off + j * (Rep.int K).k = off + j := by show off + j * 1 = _; rw [Nat.mul_one]
      have hb := hF b (List.mem_cons_self ..)
      have h4 := h3 0 (by show 0 < 1; decide)
      have h5 := atL_one.1 h2
      rw [hk] at h4 h5
      refine ⟨b, off, rfl, hb.1, hb.2, ?_, h4⟩
      rw [h5, List.getD_eq_getElem?_getD, List.getElem?_eq_getElem hl]
      rfl
  · rcases h with ⟨rfl, _⟩ | ⟨b', off, Fs, rfl, rfl, hFl, h⟩
    · cases A <;> simp [Proofs.YtnmijppppcgobaaGreatDoor.blk] at hb
    · cases l with
      | nil => simp [Proofs.YtnmijppppcgobaaGreatDoor.blk] at hb
      | cons y l =>
        simp only [List.length_cons, Proofs.YtnmijppppcgobaaGreatDoor.blk, Option.some.injEq] at hb
        subst hb
        exact List.mem_cons_self ..
set_option maxRecDepth 100000 in
theorem slot_own {lo hi : Nat} {w : World} {cs : List Value} {x : SlotD} {F : List Nat} (h : SlotR.own w cs x F) (hF : ∀ b ∈ F, lo ≤ b ∧ b < hi) : ∃ A c, cs = sCells (x, (A, c)) ∧ nums .u8 lo hi w (sv (x, (A, c))) x.2.2 ∧ ∀ b, Proofs.YtnmijppppcgobaaGreatDoor.blk (sv (x, (A, c))) = some b → b ∈ F := by
  obtain ⟨a, b, G, H, rfl, rfl, ⟨h1, rfl⟩, c, d, I, J, rfl, rfl, ⟨h2, rfl⟩, h3⟩ := h
  have h1' : a = [.string x.1] := h1
  have h2' : c = [.string x.2.1] := h2
  subst h1' h2'
  simp only [List.nil_append] at hF
  obtain ⟨u, rfl, hu, hm⟩ := own_nums (lo := lo) (hi := hi) h3 hF
  obtain ⟨A, c, rfl, -⟩ := hu.form
  exact ⟨A, c, rfl, hu, hm⟩
set_option maxRecDepth 100000 in
theorem slot_own_of {lo hi : Nat} {w : World} {x : SlotV} (h : nums .u8 lo hi w (sv x) x.1.2.2) : SlotR.own w (sCells x) x.1 (Proofs.YtnmijppppcgobaaGreatDoor.blk (sv x)).toList :=
  ⟨[_], [_, _], [], _, rfl, rfl, ⟨rfl, rfl⟩, [_], [_], [], _, rfl, rfl, ⟨rfl, rfl⟩, nums_own h⟩
/-- slots of one's own: the row's block, and each reply in a block of its own -/
structure SlotsM (lo hi : Nat) (w : World) (b off : Nat) (ps : List SlotV) : Prop where
  bnd : lo ≤ b ∧ b < hi
  cells : ∀ (j : Nat) (x : SlotV), ps[j]? = some x → atL w b (off + j * 3) (sCells x)
  free : ∀ j t, j < ps.length → t < 3 → w.frozen? ⟨b, off + j * 3 + t, none⟩ = false
  own : ∀ (j : Nat) (x : SlotV), ps[j]? = some x → nums .u8 lo hi w (sv x) x.1.2.2
  row : ∀ (j : Nat) (x : SlotV), ps[j]? = some x → Proofs.YtnmijppppcgobaaGreatDoor.blk (sv x) ≠ some b
  sep : ∀ (i j : Nat) (x y : SlotV), i ≠ j → ps[i]? = some x → ps[j]? = some y → ∀ g, Proofs.YtnmijppppcgobaaGreatDoor.blk (sv x) = some g → Proofs.YtnmijppppcgobaaGreatDoor.blk (sv y) ≠ some g
set_option maxRecDepth 100000 in
theorem slots_mem {lo hi : Nat} {w : World} {v : Value} {l : List SlotD} (h : SlotsR.mine lo hi w [v] l) :
    ∃ A c, v = .slice A l.length c ∧ l.length ≤ c ∧ (l = [] ∨ ∃ b off ps, A = some ⟨b, off, none⟩ ∧ ps.map (·.1) = l ∧ SlotsM lo hi w b off ps) := by
  obtain ⟨F, ⟨A, c, hv, hc, h⟩, hn, hF⟩ := h
  simp only [List.cons.injEq, and_true] at hv
  refine ⟨A, c, hv, hc, ?_⟩
  rcases h with ⟨rfl, _⟩ | ⟨b, off, Fs, rfl, rfl, hl, h⟩
  · exact .inl rfl
  rw [List.nodup_cons] at hn
  obtain ⟨hn1, hn2⟩ := hn
  rw [List.Nodup, List.pairwise_flatten] at hn2
  have hdis := List.pairwise_iff_getElem.1 hn2.2
  have hall : ∀ j : Nat, ∃ a : Option Addr × Nat, ∀ x G, l[j]? = some x → Fs[j]? = some G → atL w b (off + j * 3) (sCells (x, a)) ∧ freeL w b (off + j * 3) 3 ∧ nums .u8 lo hi w (sv (x, a)) x.2.2 ∧ ∀ g, Proofs.YtnmijppppcgobaaGreatDoor.blk (sv (x, a)) = some g → g ∈ G := fun j => by
    cases hx : l[j]? with
    | none => exact ⟨(none, 0), fun x G hx' => by cases hx'⟩
    | some y =>
      have hj := (List.getElem?_eq_some_iff.1 hx).1
      have hG : Fs[j]? = some (Fs[j]'(by omega)) := List.getElem?_eq_getElem (by omega)
      obtain ⟨xs, h1, h2, h3⟩ := h j y _ hx hG
      obtain ⟨A', c', rfl, hu, hm⟩ := slot_own (lo := lo) (hi := hi) h1 fun b' hb' => hF b' (List.mem_cons_of_mem _ (List.mem_flatten.2 ⟨_, List.mem_of_getElem? hG, hb'⟩))
      refine ⟨(A', c'), fun x G hx' hG' => ?_⟩
      cases hx'
      rw [hG] at hG'
      cases hG'
      exact ⟨h2, h3, hu, hm⟩
  obtain ⟨f, hf⟩ := Classical.skolem.1 hall
  have hget : ∀ (j : Nat) (x : SlotV), ((List.range l.length).map fun j => ((l.getD j (⟨#[]⟩, ⟨#[]⟩, []), f j) : SlotV))[j]? = some x → j < l.length ∧ l[j]? = some x.1 ∧ x = (x.1, f j) := fun j x hx => by
    rw [List.getElem?_map] at hx
    obtain ⟨k, hk, rfl⟩ := Option.map_eq_some_iff.1 hx
    obtain ⟨h1, h2⟩ := List.getElem?_eq_some_iff.1 hk
    rw [List.length_range] at h1
    rw [List.getElem_range] at h2
    subst h2
    exact ⟨h1, by rw [List.getD_eq_getElem?_getD, List.getElem?_eq_getElem h1]; rfl, rfl⟩
  have hFs : ∀ j, j < l.length → Fs[j]? = some (Fs.getD j []) := fun j hj => by rw [List.getD_eq_getElem?_getD, List.getElem?_eq_getElem (by omega : j < Fs.length)]; rfl
  refine .inr ⟨b, off, (List.range l.length).map fun j => (l.getD j (⟨#[]⟩, ⟨#[]⟩, []), f j), rfl, ?_, ⟨hF b (List.mem_cons_self ..), fun j x hx => ?_, fun j t hj ht => ?_, fun j x hx => ?_, fun j x hx e => ?_, fun i j x y hij hx hy g h1 h2 => ?_⟩⟩
  · apply List.ext_getElem?
    intro j
    rw [List.map_map, List.getElem?_map]
    by_cases hj : j < l.length
    · rw [List.getElem?_range hj, List.getElem?_eq_getElem hj]
      show some (l.getD j _) = _
      rw [List.getD_eq_getElem?_getD, List.getElem?_eq_getElem hj]; rfl
    · rw [List.getElem?_eq_none (by simp; omega), List.getElem?_eq_none (by omega)]; rfl
  · obtain ⟨hj, h1, h2⟩ := hget j x hx
    rw [h2]
    exact (hf j x.1 _ h1 (hFs j hj)).1
  · rw [List.length_map, List.length_range] at hj
    exact (hf j _ _ (List.getElem?_eq_getElem hj) (hFs j hj)).2.1 t ht
  · obtain ⟨hj, h1, h2⟩ := hget j x hx
    rw [h2]
    exact (hf j x.1 _ h1 (hFs j hj)).2.2.1
  · obtain ⟨hj, h1, h2⟩ := hget j x hx
    rw [h2] at e
    exact hn1 (List.mem_flatten.2 ⟨_, List.mem_of_getElem? (hFs j hj), (hf j x.1 _ h1 (hFs j hj)).2.2.2 b e⟩)
  · obtain ⟨hi', h3, h4⟩ := hget i x hx
    obtain ⟨hj, h5, h6⟩ := hget j y hy
    rw [h4] at h1
    rw [h6] at h2
    have m1 := (hf i x.1 _ h3 (hFs i hi')).2.2.2 g h1
    have m2 := (hf j y.1 _ h5 (hFs j hj)).2.2.2 g h2
    have e1 : Fs.getD i [] = Fs[i]'(by omega) := by rw [List.getD_eq_getElem?_getD, List.getElem?_eq_getElem (by omega : i < Fs.length)]; rfl
    have e2 : Fs.getD j [] = Fs[j]'(by omega) := by rw [List.getD_eq_getElem?_getD, List.getElem?_eq_getElem (by omega : j < Fs.length)]; rfl
    rw [e1] at m1
    rw [e2] at m2
    rcases Nat.lt_or_gt_of_ne hij with h7 | h7
    · exact hdis i j (by omega) (by omega) h7 g m1 g m2 rfl
    · exact hdis j i (by omega) (by omega) h7 g m2 g m1 rfl
set_option maxRecDepth 100000 in
theorem SlotsM.mine {lo hi b off c : Nat} {w : World} {ps : List SlotV} (h : SlotsM lo hi w b off ps) (hc : ps.length ≤ c) : SlotsR.mine lo hi w [.slice (some ⟨b, off, none⟩) ps.length c] (ps.map (·.1)) := by
  have hmem : ∀ g ∈ List.flatten (ps.map fun x => (Proofs.YtnmijppppcgobaaGreatDoor.blk (sv x)).toList), ∃ (j : Nat) (x : SlotV), ps[j]? = some x ∧ Proofs.YtnmijppppcgobaaGreatDoor.blk (sv x) = some g := fun g hg => by
    obtain ⟨G, hG, hgG⟩ := List.mem_flatten.1 hg
    obtain ⟨x, hx, rfl⟩ := List.mem_map.1 hG
    obtain ⟨j, hj⟩ := List.mem_iff_getElem?.1 hx
    exact ⟨j, x, hj, by simpa using hgG⟩
  refine ⟨b :: List.flatten (ps.map fun x => (Proofs.YtnmijppppcgobaaGreatDoor.blk (sv x)).toList), ⟨some ⟨b, off, none⟩, c, by rw [List.length_map], by rw [List.length_map]; exact hc, .inr ⟨b, off, _, rfl, rfl, by rw [List.length_map, List.length_map], fun j x G hx hG => ?_⟩⟩, ?_, ?_⟩
  · rw [List.getElem?_map] at hx hG
    obtain ⟨y, hy, rfl⟩ := Option.map_eq_some_iff.1 hx
    rw [hy] at hG
    cases hG
    exact ⟨sCells y, slot_own_of (h.own j y hy), h.cells j y hy, fun t ht => h.free j t (List.getElem?_eq_some_iff.1 hy).1 ht⟩
  · rw [List.nodup_cons]
    refine ⟨fun hb => ?_, ?_⟩
    · obtain ⟨j, x, hx, e⟩ := hmem b hb
      exact h.row j x hx e
    · rw [List.Nodup, List.pairwise_flatten]
      refine ⟨fun G hG => ?_, ?_⟩
      · obtain ⟨x, -, rfl⟩ := List.mem_map.1 hG
        cases Proofs.YtnmijppppcgobaaGreatDoor.blk (sv x) <;> simp
      · rw [List.pairwise_map, List.pairwise_iff_getElem]
        intro i j hi' hj hij g h1 g' h2 e
        subst e
        exact h.sep i j _ _ (by omega) (List.getElem?_eq_getElem hi') (List.getElem?_eq_getElem hj) g (by simpa using h1) (by simpa using h2)
  · intro g hg
    rcases List.mem_cons.1 hg with rfl | hg
    · exact h.bnd
    · obtain ⟨j, x, hx, e⟩ := hmem g hg
      exact (h.own j x hx).blk g e
set_option maxRecDepth 100000 in
/-- one element made anew -/
theorem SlotsM.put {lo hi b off i : Nat} {w w' : World} {ps : List SlotV} {x y : SlotV} (h : SlotsM lo hi w b off ps) (hx : ps[i]? = some x) (hs : sv y = sv x) (hc : atL w' b (off + i * 3) (sCells y)) (hco : ∀ (j : Nat) (z : SlotV), j ≠ i → ps[j]? = some z → atL w' b (off + j * 3) (sCells z))
    (hf : ∀ t, w'.frozen? ⟨b, t, none⟩ = w.frozen? ⟨b, t, none⟩) (ho : nums .u8 lo hi w' (sv y) y.1.2.2) (hoo : ∀ (j : Nat) (z : SlotV), j ≠ i → ps[j]? = some z → nums .u8 lo hi w' (sv z) z.1.2.2) : SlotsM lo hi w' b off (ps.set i y) := by
  have hi' := (List.getElem?_eq_some_iff.1 hx).1
  have hget : ∀ (j : Nat) (z : SlotV), (ps.set i y)[j]? = some z → (j = i ∧ z = y) ∨ (j ≠ i ∧ ps[j]? = some z) := fun j z hz => by
    by_cases e : i = j
    · subst e
      rw [List.getElem?_set_self hi'] at hz
      exact .inl ⟨rfl, (Option.some.inj hz).symm⟩
    · rw [List.getElem?_set_ne e] at hz
      exact .inr ⟨fun e' => e e'.symm, hz⟩
  have hsv : ∀ (j : Nat) (z : SlotV), (ps.set i y)[j]? = some z → ∃ z', ps[j]? = some z' ∧ sv z = sv z' := fun j z hz => by
    rcases hget j z hz with ⟨rfl, rfl⟩ | ⟨-, h1⟩
    · exact ⟨x, hx, hs⟩
    · exact ⟨z, h1, rfl⟩
  refine ⟨h.bnd, fun j z hz => ?_, fun j t hj ht => ?_, fun j z hz => ?_, fun j z hz => ?_, fun j k z z' hjk hz hz' g => ?_⟩
  · rcases hget j z hz with ⟨rfl, rfl⟩ | ⟨h0, h1⟩
    · exact hc
    · exact hco j z h0 h1
  · rw [List.length_set] at hj
    rw [hf]; exact h.free j t hj ht
  · rcases hget j z hz with ⟨rfl, rfl⟩ | ⟨h0, h1⟩
    · exact ho
    · exact hoo j z h0 h1
  · obtain ⟨q, h1, h2⟩ := hsv j z hz
    rw [h2]; exact h.row j q h1
  · obtain ⟨q, h1, h2⟩ := hsv j z hz
    obtain ⟨q', h3, h4⟩ := hsv k z' hz'
    rw [h2, h4]; exact h.sep j k q q' hjk h1 h3 g
set_option maxRecDepth 100000 in
theorem SlotsM.below {lo hi b off B : Nat} {w w' : World} {ps : List SlotV} (h : SlotsM lo hi w b off ps) (hb : Below B w w') (hB : hi ≤ B) : SlotsM lo hi w' b off ps := by
  have hk : w'.heap[b]? = w.heap[b]? := hb.block b (by have := h.bnd; omega)
  exact ⟨h.bnd, fun j x hx => (h.cells j x hx).keep hk, fun j t hj ht => (frozen_keep hk).trans (h.free j t hj ht), fun j x hx => (h.own j x hx).below hb hB, h.row, h.sep⟩
set_option maxRecDepth 100000 in
theorem setL_cell {w : World} {b o t : Nat} {us : List Value} (h : atL w b o us) (ht : t < us.length) (u : Value) : atL (w.setCell ⟨b, o + t, none⟩ u) b o (us.set t u) := fun s v hs => by
  by_cases e : t = s
  · subst e
    rw [List.getElem?_set_self ht] at hs
    cases hs
    exact World.cell?_setCell_same w ⟨b, o + t, none⟩ u (h t _ (List.getElem?_eq_getElem ht))
  · rw [List.getElem?_set_ne e] at hs
    rw [World.cell?_setCell_other _ _ _ _ (fun he => e (by have := congrArg Addr.off he; simp at this; omega))]
    exact h s v hs
set_option maxRecDepth 100000 in
/-- a cell of element i stored anew, its reply as it was -/
theorem SlotsM.setCell {lo hi b off i t : Nat} {w : World} {ps : List SlotV} {x y : SlotV} {u : Value} (h : SlotsM lo hi w b off ps) (hx : ps[i]? = some x) (hs : sv y = sv x) (hr : y.1.2.2 = x.1.2.2) (ht : t < 3) (hy : sCells y = (sCells x).set t u) : SlotsM lo hi (w.setCell ⟨b, off + i * 3 + t, none⟩ u) b off (ps.set i y) := by
  refine h.put hx hs (by rw [hy]; exact setL_cell (h.cells i x hx) ht u) (fun j z hj hz => (h.cells j z hz).set_far (by show off + i * 3 + t < off + j * 3 ∨ off + j * 3 + 3 ≤ off + i * 3 + t; omega) u) (fun t => by simp) ?_ (fun j z hj hz => (h.own j z hz).far u (h.row j z hz))
  rw [hs, hr]
  exact (h.own i x hx).far u (h.row i x hx)
set_option maxRecDepth 100000 in
/-- its reply made anew in its own block -/
theorem SlotsM.reply {lo hi b off i : Nat} {w w' : World} {ps : List SlotV} {x : SlotV} {m : List Int} (h : SlotsM lo hi w b off ps) (hx : ps[i]? = some x) (hm : m.length = x.1.2.2.length) (hg : w.grownBy w' (Proofs.YtnmijppppcgobaaGreatDoor.blk (sv x))) (hh : hi ≤ w.heap.size) (hn : nums .u8 lo hi w' (sv x) m) : SlotsM lo hi w' b off (ps.set i ((x.1.1, x.1.2.1, m), x.2)) := by
  have hk : w'.heap[b]? = w.heap[b]? := hg.block b (by have := h.bnd; omega) (fun e => h.row i x hx e.symm)
  have hs : sv (((x.1.1, x.1.2.1, m), x.2) : SlotV) = sv x := by unfold sv; simp only [hm]
  refine h.put hx hs ?_ (fun j z hj hz => (h.cells j z hz).keep hk) (fun t => frozen_keep hk) (by rw [hs]; exact hn) (fun j z hj hz => (h.own j z hz).apart hg hh fun g h1 h2 => h.sep j i z x hj hz hx g h1 h2)
  have hc : sCells (((x.1.1, x.1.2.1, m), x.2) : SlotV) = sCells x := by unfold sCells; simp only [hm]
  rw [hc]
  exact (h.cells i x hx).keep hk
end Go.Proofs.YtnmijppppcgobaaGreatDoor
set_option linter.unusedVariables false
namespace Go.Proofs.YtnmijppppcgobaaGreatDoor
open Go.ChangeShapes Go.WideShapes Go.ChangeAt Go.RowKit

set_option maxRecDepth 100000 in
theorem turned_drew {lo hi : Nat} {u v : World} (h : Turned lo hi u v) : Turned lo hi u v.drew := ⟨h.os, h.tape, h.output, h.size, h.block⟩
set_option maxRecDepth 100000 in
theorem getD_at {l : List HoldD} {k : Nat} (hk : k < l.length) : l[k]? = some (l.getD k noH) := by
  rw [List.getD_eq_getElem?_getD, List.getElem?_eq_getElem hk]; rfl
set_option maxRecDepth 100000 in
theorem holds_setAmt {w : World} {v : Value} {l : List HoldD} {F : List Nat} (h : HoldsR.own w [v] l F) {k : Nat} (hk : k < l.length) :
    ∃ b off c, v = .slice (some ⟨b, off, none⟩) l.length c ∧ l.length ≤ c ∧ b ∈ F ∧ atL w b (off + k * 3) (hCells (l.getD k noH)) ∧ w.frozen? ⟨b, off + k * 3 + 1, none⟩ = false ∧
      ∀ n, HoldsR.own (w.setCell ⟨b, off + k * 3 + 1, none⟩ (.int .i64 n)) [v] (amtAt l k n) F := by
  obtain ⟨A, c, hv, hc, h⟩ := h
  simp only [List.cons.injEq, and_true] at hv
  subst hv
  rcases h with ⟨rfl, _⟩ | ⟨b, off, Fs, rfl, rfl, hl, h⟩
  · simp at hk
  have hkk : HoldR.k = 3 := rfl
  have hG : Fs[k]? = some (Fs[k]'(by omega)) := List.getElem?_eq_getElem (by omega)
  obtain ⟨xs, h1, h2, h3⟩ := h k _ _ (getD_at hk) hG
  rw [hkk] at h2 h3
  rw [hold_own] at h1
  obtain ⟨rfl, h1⟩ := h1
  refine ⟨b, off, c, rfl, hc, List.mem_cons_self .., h2, h3 1 (by omega), fun n => ?_⟩
  refine ⟨some ⟨b, off, none⟩, c, by simp [amtAt], by simpa [amtAt] using hc, .inr ⟨b, off, Fs, rfl, rfl, by simpa [amtAt] using hl, fun j x G hx hG' => ?_⟩⟩
  rw [hkk]
  by_cases e : j = k
  · subst e
    rw [hG] at hG'
    cases hG'
    have hx' : x = ((l.getD j noH).1, n, (l.getD j noH).2.2) := by
      unfold amtAt at hx
      rw [List.getElem?_set_self hk] at hx
      exact (Option.some.inj hx).symm
    subst hx'
    refine ⟨hCells ((l.getD j noH).1, n, (l.getD j noH).2.2), hold_own.2 ⟨rfl, h1⟩, ?_, fun t ht => ?_⟩
    · exact setL_cell (t := 1) h2 (show 1 < 3 by decide) (.int .i64 n)
    · rw [World.frozen?_setCell]; exact h3 t ht
  · have hx' : l[j]? = some x := by
      unfold amtAt at hx
      rwa [List.getElem?_set_ne (by omega)] at hx
    obtain ⟨ys, g1, g2, g3⟩ := h j x G hx' hG'
    rw [hkk] at g2 g3
    rw [hold_own] at g1
    obtain ⟨rfl, g1⟩ := g1
    refine ⟨hCells x, hold_own.2 ⟨rfl, g1⟩, ?_, fun t ht => ?_⟩
    · refine g2.set_far ?_ _
      show off + k * 3 + 1 < off + j * 3 ∨ off + j * 3 + 3 ≤ off + k * 3 + 1
      omega
    · rw [World.frozen?_setCell]; exact g3 t ht
set_option maxRecDepth 100000 in
theorem acct_setAmt {lo hi : Nat} {w : World} {a : AcctD} {vh vc vs vl : Value} (h : AcctR.mine lo hi w (aCells a vh vc vs vl) a) {k : Nat} (hk : k < (aH a).length) :
    ∃ b off c, vh = .slice (some ⟨b, off, none⟩) (aH a).length c ∧ (aH a).length ≤ c ∧ lo ≤ b ∧ b < hi ∧ atL w b (off + k * 3) (hCells ((aH a).getD k noH)) ∧ w.frozen? ⟨b, off + k * 3 + 1, none⟩ = false ∧
      ∀ n, AcctR.mine lo hi (w.setCell ⟨b, off + k * 3 + 1, none⟩ (.int .i64 n)) (aCells (setH a (amtAt (aH a) k n)) vh vc vs vl) (setH a (amtAt (aH a) k n)) := by
  obtain ⟨uh, uc, us, ul, F, G, H, hcs, o1, o2, o3, n1, n2, n3, ap, hb⟩ := acct_mine h
  simp only [aCells, List.cons.injEq, and_true, true_and] at hcs
  obtain ⟨rfl, rfl, rfl, rfl⟩ := hcs
  obtain ⟨b, off, c, rfl, hc, hF, h2, h3, h4⟩ := holds_setAmt o1 hk
  have hbb := hb b (.inl hF)
  refine ⟨b, off, c, rfl, hc, hbb.1, hbb.2, h2, h3, fun n => ?_⟩
  refine acct_mine_of (a := setH a (amtAt (aH a) k n)) (h4 n) (RingR.own_keep o2 fun g hg => Below.heap_setCell _ _ _ _ ?_) (SlotsR.own_keep o3 fun g hg => Below.heap_setCell _ _ _ _ ?_) n1 n2 n3 ap hb
  · exact fun e => ap.fg b hF (by have e' : g = b := e; rw [← e']; exact hg)
  · exact fun e => ap.fh b hF (by have e' : g = b := e; rw [← e']; exact hg)
set_option maxRecDepth 100000 in
theorem findH_lt {l : List HoldD} {id : ByteArray} (h : ¬ findH l id < 0) : (findH l id).toNat < l.length ∧ findH l id = ((findH l id).toNat : Nat) ∧ (l.getD (findH l id).toNat noH).1 = id := by
  unfold findH at h ⊢
  cases hk : l.findIdx? (fun x => decide (x.1 = id)) with
  | none => rw [hk] at h; exact absurd (by decide) h
  | some i =>
    obtain ⟨h1, h2, -⟩ := List.findIdx?_eq_some_iff_getElem.1 hk
    have e : l.getD i noH = l[i] := by rw [List.getD_eq_getElem?_getD, List.getElem?_eq_getElem h1]; rfl
    refine ⟨by simpa using h1, by simp, ?_⟩
    show (l.getD (i : Int).toNat noH).1 = id
    rw [Int.toNat_natCast, e]
    exact of_decide_eq_true h2
end Go.Proofs.YtnmijppppcgobaaGreatDoor
set_option linter.unusedVariables false
namespace Go.Proofs.YtnmijppppcgobaaGreatDoor
open Go.ChangeShapes Go.WideShapes Go.ChangeAt Go.RowKit

set_option maxRecDepth 100000 in
/-- append(s, T{..}) as a step of a region that draws its order, the element lying anywhere -/
theorem app_src_step {P : Program} {ops : Array Oper} {o : Oper} {a : Act} {Kn : Act → World → Prop} {Q : Exit → Act → World → Prop} {E : Prop} {α : Type} (enc : α → List Value) (k : Nat) (hk : ∀ x, (enc x).length = k) (hk0 : 0 < k) (hone : ∀ x, ∀ u ∈ enc x, u.oneCell' = true)
    (t e : TypeId) (zs : Array Value) (bytes : Nat) (ht : P.underlying t = some (.slice e)) (hinfo : (P.info? e).map (fun i => (i.zero.map (·.cells), i.size, i.bytes)) = some (some zs, k, bytes)) (hzs : zs.size = k)
    (s x : Operand) (hgd : o.guard = none) (ho : o.op = .call { callee := .builtin .append, args := #[s, x], argTypes := #[t, t] })
    (base : Nat) (W : World) (v : Value) (l : List α) (y : α) (n : Nat) (hs : a.eval s = v) (hx : a.eval x = .slice (some ⟨n, 0, none⟩) 1 1) (hc : ∀ j u, (enc y)[j]? = some u → W.cell? ⟨n, j, none⟩ = some u)
    (hown : owE e k enc base W v l) (h63 : l.length + 1 ≤ maxLen) (hbytes : (l.length + 1) * bytes ≤ 140737488355328) (hbase : base ≤ W.heap.size)
    (h : ∀ A c w', owE e k enc base w' (.slice A (l.length + 1) c) (l ++ [y]) → l.length + 1 ≤ c → W.grownBy w' v.ownBlock → ((Value.slice A (l.length + 1) c).ownBlock = v.ownBlock ∨ (Value.slice A (l.length + 1) c).ownBlock = some W.heap.size) → Kn (a.put o.dst (.slice A (l.length + 1) c)) w') : if Region.wanted o (yielded ops a.tmps) = true then o.wp P a W Kn Q else E := by
  rw [if_pos (by simp [Region.wanted, hgd])]
  obtain ⟨i, hi, hxx⟩ := Option.map_eq_some_iff.1 hinfo
  simp only [Prod.mk.injEq] at hxx
  obtain ⟨hz, hsize, hby⟩ := hxx
  obtain ⟨z, hzz, hzc⟩ := Option.map_eq_some_iff.1 hz
  have hcells : ∀ j u, (enc y)[j]? = some u → W.cell? ((⟨n, 0, none⟩ : Addr).add j) = some u := by
    intro j u hu
    have e1 : (⟨n, 0, none⟩ : Addr).add j = ⟨n, j, none⟩ := by
      unfold Addr.add
      split
      · next h0 => rw [h0]
      · simp
    rw [e1]
    exact hc j u hu
  obtain ⟨v', w1, hr, hown', hgrow, _, hlies⟩ := run_append_own_at (P := P) W base t o.type e i z k bytes ht hi hzz hsize hby (by rw [hzc, hzs]) hk0 v l.length (l.flatMap enc) hown ⟨n, 0, none⟩ 1 1 (enc y) (by rw [hk]; omega) hcells (hone y) h63 hbytes hbase
  have ho' : owE e k enc base w1 v' (l ++ [y]) := by
    unfold owE
    rw [List.length_append, List.flatMap_append]
    simpa using hown'
  obtain ⟨A, c, rfl, hc'⟩ := ho'.form
  rw [List.length_append] at ho' hc' hlies hr
  unfold Oper.wp execOp
  simp only [ho, resolve, invoke, builtin, Sem.run_bind, Sem.run_pure, Result.andThen_ok, List.map_toArray, List.map_cons, List.map_nil, hs, hx, hr]
  exact h A c w1 ho' hc' hgrow (by simpa using hlies)
set_option maxRecDepth 100000 in
/-- such a row is read -/
theorem owE_slots_rd {T : TypeId} {B : Nat} {w : World} {v : Value} {ps : List SlotV} (ho : owE T 3 sCells B w v ps) (hr : ∀ (j : Nat) (y : SlotV), ps[j]? = some y → rd .u8 w.heap.size w (sv y) y.1.2.2) : SlotsR.rd w.heap.size w [v] (ps.map (·.1)) := by
  obtain ⟨A, c, rfl, hc⟩ := ho.form
  refine ⟨A, c, by rw [List.length_map], by rw [List.length_map]; exact hc, fun j x hx => ?_⟩
  rw [List.getElem?_map] at hx
  obtain ⟨y, hy, rfl⟩ := Option.map_eq_some_iff.1 hx
  have hj := (List.getElem?_eq_some_iff.1 hy).1
  rcases ho.filled (fun _ => rfl) ((⟨#[]⟩, ⟨#[]⟩, []), (none, 0)) with ⟨rfl, -⟩ | ⟨b, c', hv, -, h1, h2, hf⟩
  · simp at hj
  · simp only [Value.slice.injEq, true_and] at hv
    obtain ⟨rfl, rfl⟩ := hv
    have hat := hf.at_ j hj
    have hg : ps.getD j ((⟨#[]⟩, ⟨#[]⟩, []), (none, 0)) = y := by rw [List.getD_eq_getElem?_getD, hy]; rfl
    rw [hg] at hat
    exact ⟨b, 0, sCells y, rfl, h2, slot_rd_of (hr j y hy), hat⟩
set_option maxRecDepth 100000 in
theorem put_read {T : TypeId} {B hi : Nat} {w : World} {A AX : Option Addr} {c cX : Nat} {ps : List SlotV} {p q : Nat → Nat} {row : Option Nat} {l : List SlotD} {x : SlotD} (ho : owE T 3 sCells B w (.slice A (ps.length + 1) c) (ps ++ [((x, (AX, cX)) : SlotV)])) (hr : replies w row B ps p q) (hu : rd .u8 hi w (.slice AX x.2.2.length cX) x.2.2) (hh : hi ≤ w.heap.size) (hm : ps.map (·.1) = l) : SlotsR.rd w.heap.size w [.slice A (ps.length + 1) c] (l ++ [x]) := by
  have h := owE_slots_rd ho fun j y hy => by
    by_cases e : j = ps.length
    · subst e
      have : y = (x, (AX, cX)) := by simpa using hy.symm
      subst this
      exact rd.mono hu hh
    · have hj : j < ps.length := by have := (List.getElem?_eq_some_iff.1 hy).1; simp at this; omega
      rw [List.getElem?_append_left hj] at hy
      exact rd.mono (hr.own j y hy).rd (hr.in_ j hj).2
  rw [List.map_append, hm] at h
  exact h
def slotPutL (l : List SlotD) (x : SlotD) : List SlotD × Bool := if slotsOk (l ++ [x]) = true then (l ++ [x], true) else ([], false)
def slotsRes (l : List SlotD) (ok : Bool) (w : World) (e : Ending) (w' : World) : Prop := ∃ u, e = .returned (.tuple #[u, .bool ok]) ∧ SlotsR.mine w.heap.size w'.heap.size w' [u] l ∧ Below w.heap.size w w'
set_option maxRecDepth 100000 in
set_option maxHeartbeats 6400000 in
theorem specSlotPut_any (hi : Nat) (v u : Value) (l : List SlotD) (x : SlotD) (w : World) (hn : l.length ≤ 1048576) (hs : ∀ x ∈ l, x.2.2.length ≤ 1048576) (hz : ∀ x ∈ l, x.1.size ≤ maxLen ∧ x.2.1.size ≤ maxLen) (hx : x.2.2.length ≤ 1048576) (hx1 : x.1.size ≤ maxLen) (hx2 : x.2.1.size ≤ maxLen) (h : SlotsR.rd hi w [v] l) (hu : rd .u8 hi w u x.2.2) (hh : hi ≤ w.heap.size) :
    Calls Tryz.prog 194 #[v, .agg #[.string x.1, .string x.2.1, u]] w (slotsRes (slotPutL l x).1 (slotPutL l x).2 w) := by
  obtain ⟨A0, c0, rfl, -, -⟩ := slots_rd h
  obtain ⟨AX, cX, rfl, -⟩ := hu.form
  have H := Lib.hid h
  have HU := Lib.hid hu
  have hnx : (l ++ [x]).length ≤ 2000000 := by simp; omega
  have HSX : Hid (∀ y ∈ l ++ [x], y.2.2.length ≤ 1048576) := Lib.hid fun y hy => by
    rcases List.mem_append.1 hy with h | h
    · exact hs y h
    · rw [List.mem_singleton.1 h]; exact hx
  have HZX : Hid (∀ y ∈ l ++ [x], y.1.size ≤ maxLen ∧ y.2.1.size ≤ maxLen) := Lib.hid fun y hy => by
    rcases List.mem_append.1 hy with h | h
    · exact hz y h
    · rw [List.mem_singleton.1 h]; exact ⟨hx1, hx2⟩
  have HS := Lib.hid hs
  clear h hu hs hz hx1 hx2
  go_enter Tryz.func194, Tryz.ntmps194
  go_upto_region 1 with fail
  obtain ⟨W, hW⟩ : ∃ W, W = w.alloc (.cells #[.string x.1, .string x.2.1, .slice AX x.2.2.length cX] 176) := ⟨_, rfl⟩
  have b0 : bk W w.heap.size 176 [.string x.1, .string x.2.1, .slice AX x.2.2.length cX] := by rw [hW]; exact bk.new w _ _
  have HB0 : Hid (Below w.heap.size w W) := Lib.hid (by rw [hW]; exact (Below.refl _ _).alloc (Nat.le_refl _) _)
  have z0 : W.heap.size = w.heap.size + 1 := by rw [hW]; simp
  rw [← hW]
  clear hW
  have B0 := Lib.hid b0
  obtain ⟨p0, p1, p2⟩ := b0.cells3
  clear b0
  have HCP := Lib.hid (fun V (hV : Below W.heap.size W V) => specCopySlotsO_any hi _ l V (by omega) HS.out (Rep.below (R := SlotsR) H.out (HB0.out.trans (hV.mono (by omega))) hh) (Nat.le_trans (by omega) hV.size))
  have HUX := Lib.hid (fun V (hV : Below W.heap.size W V) => HU.out.below (HB0.out.trans (hV.mono (by omega))) hh)
  have HBK := Lib.hid (fun V (hV : Below W.heap.size W V) => (B0.out.below hV (by omega)).cells3)
  have hD : Below W.heap.size W W.drew := (Below.refl _ _).drew
  go_cut [6] (fun uv wx => ∃ (A : Option Addr) (c : Nat), uv = .slice A (l ++ [x]).length c ∧ SlotsR.mine W.heap.size wx.heap.size wx [uv] (l ++ [x]) ∧ Below W.heap.size W wx)
  case first =>
    have hE := ((Below.refl W.heap.size W).alloc (Nat.le_refl W.heap.size) (.cells #[.string x.1, .string x.2.1, .slice AX x.2.2.length cX] 176)).drew
    have hEn := heap_alloc_new W (.cells #[.string x.1, .string x.2.1, .slice AX x.2.2.length cX] 176)
    rw [z0] at hEn
    go_region_held3 (fun V => V.cell? ⟨w.heap.size, 0, none⟩ = some (.string x.1) ∧ V.cell? ⟨w.heap.size, 1, none⟩ = some (.string x.2.1) ∧ V.cell? ⟨w.heap.size, 2, none⟩ = some (.slice AX x.2.2.length cX)) (go_keep) (first
      | (go_at_call 160; (with_reducible refine (HCP.out _ hD).mono ?_); rintro e w2 ⟨A2, c2, ps, p, q, rfl, hm2, ho2, hr2, hb2⟩; have hW2 : Below W.heap.size W w2 := hD.trans (hb2.mono (Nat.le_refl _)); obtain ⟨q0, q1, q2⟩ := HBK.out w2 hW2; have hpl : ps.length ≤ 1048576 := (by rw [show ps.length = l.length from by rw [← hm2, List.length_map]]; omega); have HO2 := Lib.hid ho2; have HR2 := Lib.hid hr2; have HM2 := Lib.hid hm2; have HW2 := Lib.hid hW2; clear ho2 hr2 hb2 hm2 hW2)
      | (go_at_call 160; (with_reducible refine (HCP.out _ hE).mono ?_); rintro e w2 ⟨A2, c2, ps, p, q, rfl, hm2, ho2, hr2, hb2⟩; have hW2 : Below W.heap.size W w2 := hE.trans (hb2.mono (by simp)); obtain ⟨q0, q1, q2⟩ := HBK.out w2 hW2; have hpl : ps.length ≤ 1048576 := (by rw [show ps.length = l.length from by rw [← hm2, List.length_map]]; omega); have HO2 := Lib.hid ho2; have HR2 := Lib.hid hr2; have HM2 := Lib.hid hm2; have HW2 := Lib.hid hW2; have HE2 : Hid (∀ (j : Nat) (v : Value), (sCells ((x, (AX, cX)) : SlotV))[j]? = some v → w2.cell? ⟨w.heap.size + 1, j, none⟩ = some v) := Lib.hid (fun j v hv => (by rw [hb2.cell (p := ⟨w.heap.size + 1, j, none⟩) (show w.heap.size + 1 < (W.alloc _).heap.size by simp; omega), show ∀ V : World, V.drew.cell? ⟨w.heap.size + 1, j, none⟩ = V.cell? ⟨w.heap.size + 1, j, none⟩ from fun _ => rfl, cell_of_row _ _ j _ _ (0, 0) hEn, ← Array.getElem?_toList]; exact hv)); have HZ2 := Lib.hid hb2.size; clear ho2 hr2 hb2 hm2 hW2)
      | (refine app_elem_step sCells 3 (fun _ => rfl) (by decide) sCells_one 27 176 #[.string ⟨#[]⟩, .string ⟨#[]⟩, .slice none 0 0] 56 Tryz.underlying27 infoSlot rfl _ _ (by rfl) (by rfl) _ w2 _ ps ((x, (AX, cX)) : SlotV) _ _ (by rfl) (by rfl) (by rfl) rfl HO2.out (by unfold maxLen; omega) (by omega) (by have := HW2.out.size; exact this) ?_; intro A4 c4 w4 hown4 hc4 hg4 hl4; have hW4 : Below W.heap.size W w4 := (HW2.out.alloc HW2.out.size (.cells #[.string x.1, .string x.2.1, .slice AX x.2.2.length cX] 176)).grown hg4 (by have := HW2.out.size; simp; omega) (fun k hk => (HO2.out.lt k hk).1); obtain ⟨q0, q1, q2⟩ := HBK.out w4 hW4; have hr4 := (HR2.out.below ((Below.refl w2.heap.size w2).alloc (Nat.le_refl _) (.cells #[.string x.1, .string x.2.1, .slice AX x.2.2.length cX] 176))).grown hg4 (row' := (Value.slice A4 (ps.length + 1) c4).ownBlock) (hl4.imp id (fun e => ⟨_, e, by simp⟩)); have HM4 := Lib.hid HM2.out; have HO4 := Lib.hid hown4; have HR4 := Lib.hid hr4; have HW4 := Lib.hid hW4; clear hown4 hg4 hl4 hr4 hW4)
      | (refine app_src_step sCells 3 (fun _ => rfl) (by decide) sCells_one 27 176 #[.string ⟨#[]⟩, .string ⟨#[]⟩, .slice none 0 0] 56 Tryz.underlying27 infoSlot rfl _ _ (by rfl) (by rfl) _ w2 _ ps ((x, (AX, cX)) : SlotV) _ (by rfl) (by rfl) HE2.out HO2.out (by unfold maxLen; omega) (by omega) (by have := HZ2.out; exact this) ?_; intro A4 c4 w4 hown4 hc4 hg4 hl4; have hW4 : Below W.heap.size W w4 := HW2.out.grown hg4 (by have := HW2.out.size; omega) (fun k hk => by have := (HO2.out.lt k hk).1; simp at this; omega); obtain ⟨q0, q1, q2⟩ := HBK.out w4 hW4; have hr4 := HR2.out.grown hg4 (row' := (Value.slice A4 (ps.length + 1) c4).ownBlock) (hl4.imp id (fun e => ⟨_, e, Nat.le_refl _⟩)); have HM4 := Lib.hid HM2.out; have HO4 := Lib.hid hown4; have HR4 := Lib.hid hr4; have HW4 := Lib.hid hW4; clear hown4 hg4 hl4 hr4 hW4)
      | (go_at_call 160; (with_reducible refine (specCopySlots_any w4.heap.size _ (l ++ [x]) w4 hnx HSX.out (put_read HO4.out HR4.out (HUX.out w4 HW4.out) (Nat.le_trans (by omega) HW4.out.size) HM4.out) (Nat.le_refl _)).mono ?_); rintro e w6 ⟨u6, rfl, hu6, hb6⟩; obtain ⟨A6, c6, rfl, -⟩ := Rep.slice_form hu6.rd; have HU6 := Lib.hid hu6; have hW6 : Below W.heap.size W w6 := HW4.out.trans (hb6.mono HW4.out.size); obtain ⟨q0, q1, q2⟩ := HBK.out w6 hW6; have HW6 := Lib.hid hW6; have z46 : W.heap.size ≤ w4.heap.size := HW4.out.size; clear hu6 hb6 hW6)
      | fail)
    all_goals (go_wp2; go_meet)
    all_goals exact ⟨A6, c6, by simp, by simpa using HU6.out.mono z46 (Nat.le_refl _), HW6.out⟩
  case rest =>
    obtain ⟨A, c, rfl, hm, hb⟩ := hcut
    have zc := hb.size
    have HM := Lib.hid hm
    have HB := Lib.hid hb
    have HPL : Hid (slotPutL l x = if slotsOk (l ++ [x]) = true then (l ++ [x], true) else ([], false)) := Lib.hid rfl
    have HOK := Lib.hid (specSlotsOk_any wc.heap.size _ (l ++ [x]) wc hnx HZX.out hm.rd (Nat.le_refl _))
    clear hm hb HCP HUX HBK hD p0 p1 p2
    generalize slotsOk (l ++ [x]) = ok at HOK HPL
    generalize l ++ [x] = L at HM HPL HOK ⊢
    go_wp2_with fail
    refine HOK.out.mono ?_
    rintro e w9 ⟨rfl, hb9⟩
    have z9 := hb9.size
    have HW9 : Hid (Below w.heap.size w w9) := Lib.hid (HB0.out.trans ((HB.out.mono (by omega)).trans (hb9.mono (by omega))))
    have HM9 := Lib.hid (HM.out.below hb9 (Nat.le_refl _))
    clear hb9
    cases ok
    · go_wp2
      refine bodyPost_ret (v := .tuple #[.slice none 0 0, .bool false]) (by simp [results, Tryz.results194, go_sem]) rfl ?_
      rw [HPL.out]
      exact ⟨_, rfl, ⟨[], ⟨none, 0, rfl, Nat.le_refl _, .inl ⟨rfl, rfl⟩⟩, List.nodup_nil, by simp⟩, HW9.out⟩
    · go_wp2
      refine bodyPost_ret (v := .tuple #[.slice A L.length c, .bool true]) (by simp [results, Tryz.results194, go_sem]) rfl ?_
      rw [HPL.out]
      exact ⟨_, rfl, HM9.out.mono (by omega) z9, HW9.out⟩
end Go.Proofs.YtnmijppppcgobaaGreatDoor
set_option linter.unusedVariables false
namespace Go.Proofs.YtnmijppppcgobaaGreatDoor
open Go.ChangeShapes Go.WideShapes Go.ChangeAt Go.RowKit

set_option maxRecDepth 100000 in
theorem holdsOk_small {l : List HoldD} (h : holdsOk l = true) : l.length ≤ 4 ∧ ∀ x ∈ l, x.1.size ≤ 6 := by
  unfold holdsOk at h
  simp only [Bool.and_eq_true, decide_eq_true_eq, List.all_eq_true, List.mem_range] at h
  refine ⟨h.2, fun x hx => ?_⟩
  obtain ⟨i, hi, rfl⟩ := List.mem_iff_getElem.1 hx
  have h1 := h.1 i hi
  unfold holdAtOk holdOk idOk inB at h1
  have e : l.getD i noH = l[i] := by rw [List.getD_eq_getElem?_getD, List.getElem?_eq_getElem hi]; rfl
  rw [e] at h1
  simp only [Bool.and_eq_true, decide_eq_true_eq] at h1
  have := h1.1.1.2.2
  omega
set_option maxRecDepth 100000 in
theorem putH_ok {l : List HoldD} {h : HoldD} (hk : (putH l h).2 = true) : holdsOk (putH l h).1 = true := by
  unfold putH at hk ⊢
  split
  · rename_i h1
    simp only [Bool.and_eq_true] at h1
    exact h1.2
  · rename_i h1
    rw [if_neg h1] at hk
    exact absurd hk (by simp)
set_option maxRecDepth 100000 in
theorem slotsOk_small {l : List SlotD} (h : slotsOk l = true) : l.length ≤ 6 ∧ ∀ x ∈ l, x.1.size = 6 ∧ x.2.1.size = 4 ∧ x.2.2.length ≤ 200 := by
  unfold slotsOk at h
  simp only [Bool.and_eq_true, decide_eq_true_eq, List.all_eq_true, List.mem_range] at h
  refine ⟨h.2, fun x hx => ?_⟩
  obtain ⟨i, hi, rfl⟩ := List.mem_iff_getElem.1 hx
  have h1 := h.1 i hi
  unfold slotAtOk at h1
  rw [List.getElem?_eq_getElem hi] at h1
  simp only [Bool.and_eq_true] at h1
  have h2 := h1.1
  unfold slotOk inB at h2
  simp only [Bool.and_eq_true, decide_eq_true_eq] at h2
  exact ⟨h2.2.1, h2.2.2.2.1, by have := h2.2.2.2.2.2; omega⟩
set_option maxRecDepth 100000 in
theorem slotPut_ok {l : List SlotD} {x : SlotD} (hk : (slotPutL l x).2 = true) : slotsOk (slotPutL l x).1 = true := by
  unfold slotPutL at hk ⊢
  split
  · rename_i h1
    exact h1
  · rename_i h1
    rw [if_neg h1] at hk
    exact absurd hk (by simp)
end Go.Proofs.YtnmijppppcgobaaGreatDoor
set_option linter.unusedVariables false
namespace Go.Proofs.YtnmijppppcgobaaGreatDoor
open Go.ChangeShapes Go.WideShapes Go.ChangeAt Go.RowKit

end Go.Proofs.YtnmijppppcgobaaGreatDoor
set_option linter.unusedVariables false
namespace Go.Proofs.YtnmijppppcgobaaGreatDoor
open Go.ChangeShapes Go.WideShapes Go.ChangeAt Go.RowKit

set_option maxRecDepth 100000 in
theorem markOf_size (k : Int) (h : k ≤ 1000000000) : (markOf k).length ≤ 21 := by
  have := mark_len k h
  unfold markOf
  simp; omega
end Go.Proofs.YtnmijppppcgobaaGreatDoor
