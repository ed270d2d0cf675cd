/- A ring's copy by the program; no conditions. -/
import Derived.Test.YteogdfiaobccfaaDoorRingC
import Derived.Test.YteogdfiaobccfaaDoorQuiet
import Derived.Deep.RegionHeld3
set_option linter.unusedVariables false
namespace Go.Proofs.YteogdfiaobccfaaDoor
open Go.ChangeShapes Go.WideShapes Go.ChangeAt Go.RowKit

set_option maxRecDepth 100000 in
theorem opsEqlNil (A : Option Addr) (n c n' c' : Nat) (w : World) : (binOp .eql 23 (.slice A n c) (.slice none n' c')).run Tryd.prog w = .ok (.bool A.isNone) w := Lib.run_eql_slice_nil w _ _ A n c n' c' Tryd.underlying23
set_option maxRecDepth 100000 in
set_option maxHeartbeats 1600000 in
/-- slices.Clone of numbers -/
theorem implClone_any (hi : Nat) (v : Value) (l : List Int) (w : World) (h : rd .i64 hi w v l) (hh : hi ≤ w.heap.size) (hl : l.length ≤ 1048576) :
    Calls Tryd.prog 50 #[v] w fun e w' => ∃ v', e = .returned v' ∧ nums .i64 w.heap.size w'.heap.size w' v' l ∧ Below w.heap.size w w' := by
  obtain ⟨A, c, rfl, -⟩ := h.form
  have HC := Lib.hid h
  have hq := opsEqlNil
  cases A with
  | none =>
    have hz : l = [] := by
      cases l with
      | nil => rfl
      | cons x l =>
        obtain ⟨A', c', e, -, hj⟩ := h
        obtain ⟨b, off, rfl, -⟩ := hj 0 (by simp)
        cases e
    subst hz
    clear h
    go_enter Tryd.func50, Tryd.ntmps50
    go_wp2
    go_ret
    exact ⟨_, rfl, nums_none _ _ _ _, Below.refl _ _⟩
  | some a =>
    clear h
    go_enter Tryd.func50, Tryd.ntmps50
    have y0 : w.heap.size < w.heap.size + 1 := by omega
    go_wp2_with (at_builtin; refine app_all (w.alloc (.cells #[] 3)) rfl _ _ 23 rfl w.heap.size 3 .i64 8 Tryd.underlying23 infoI64 _ [] rfl (ow_void _ _ w) hi _ l (by rfl) (HC.out.below ((Below.refl w.heap.size w).alloc (by omega) _) hh) (by unfold maxLen; simp; omega) (by simp; omega) (by simp) ?_)
    intro v1 w1 hv1 hg1 hb1
    have hn1 := hv1.nums
    go_wp2
    go_ret
    exact ⟨_, rfl, hn1.mono (Nat.le_refl _) (Nat.le_refl _), ((Below.refl _ _).alloc (Nat.le_refl _) _).trans hb1⟩
/-- all up to block g is as in W; block g + 1, a ring of the call's own, may be written -/
structure Copying (g : Nat) (W V : World) : Prop where
  low : Below (g + 1) W V
  own : ∃ a b c d, bk V (g + 1) 27 [a, b, c, d]
set_option maxRecDepth 100000 in
theorem Copying.step {g : Nat} {W V V' : World} (h : Copying g W V) (hb : Below V.heap.size V V') : Copying g W V' := by
  obtain ⟨h1, a, b, c, d, h2⟩ := h
  exact ⟨h1.trans (hb.mono (by have := h2.lt; omega)), a, b, c, d, h2.below hb h2.lt⟩
set_option maxRecDepth 100000 in
theorem Copying.set {g : Nat} {W V : World} (h : Copying g W V) (i : Nat) (v : Value) : Copying g W (V.setCell ⟨g + 1, i, none⟩ v) := by
  obtain ⟨h1, a, b, c, d, h2⟩ := h
  refine ⟨h1.setCell (p := ⟨_, _, none⟩) (Nat.le_refl _) _, ?_⟩
  have h3 := h2.set i v
  match i with
  | 0 => exact ⟨_, _, _, _, h3⟩
  | 1 => exact ⟨_, _, _, _, h3⟩
  | 2 => exact ⟨_, _, _, _, h3⟩
  | 3 => exact ⟨_, _, _, _, h3⟩
  | n + 4 => exact ⟨_, _, _, _, h3⟩
set_option maxRecDepth 100000 in
theorem Copying.cells {g : Nat} {W V : World} {t : TypeId} {x y z u : Value} (h : Copying g W V) (hb : bk W g t [x, y, z, u]) : V.cell? ⟨g, 0, none⟩ = some x ∧ V.cell? ⟨g, 1, none⟩ = some y ∧ V.cell? ⟨g, 2, none⟩ = some z ∧ V.cell? ⟨g, 3, none⟩ = some u :=
  (hb.below h.low (Nat.lt_succ_self _)).cells.1
set_option maxRecDepth 100000 in
set_option maxHeartbeats 4000000 in
theorem implCopy_any (hi : Nat) (vc vs : Value) (r : RingD) (w : World) (h1 : rd .i64 hi w vc r.2.2.1) (h2 : rd .i64 hi w vs r.2.2.2) (hh : hi ≤ w.heap.size) (hc : r.2.2.1.length ≤ 1048576) (hs : r.2.2.2.length ≤ 1048576) :
    Calls Tryd.prog 29 #[.agg #[.int .i64 r.1, .int .i64 r.2.1, vc, vs]] w (ringOne r w) := by
  obtain ⟨sp, hd, cs, ss⟩ := r
  simp only at h1 h2 hc hs ⊢
  obtain ⟨A1, c1, rfl, -⟩ := h1.form
  obtain ⟨A2, c2, rfl, -⟩ := h2.form
  go_enter Tryd.func29, Tryd.ntmps29
  go_upto_region 1 with fail
  obtain ⟨W, hW⟩ : ∃ W, W = (w.alloc (.cells #[.int .i64 sp, .int .i64 hd, .slice A1 cs.length c1, .slice A2 ss.length c2] 27)).alloc (.cells #[.int .i64 0, .int .i64 0, .slice none 0 0, .slice none 0 0] 27) := ⟨_, rfl⟩
  have b0 : bk W w.heap.size 27 [.int .i64 sp, .int .i64 hd, .slice A1 cs.length c1, .slice A2 ss.length c2] := by rw [hW]; exact (bk.new w _ _).alloc _
  have b1 : bk W (w.heap.size + 1) 27 [.int .i64 0, .int .i64 0, .slice none 0 0, .slice none 0 0] := by rw [hW]; simpa using bk.new (w.alloc _) _ _
  have HB0 : Hid (Below w.heap.size w W) := Lib.hid (by rw [hW]; exact ((Below.refl _ _).alloc (Nat.le_refl _) _).alloc (by simp) _)
  have z0 : w.heap.size + 2 ≤ W.heap.size := by rw [hW]; simp
  rw [← hW]
  clear hW
  have hbx : ∀ V, Copying w.heap.size W V → Below w.heap.size w V := fun V hV => HB0.out.trans (hV.low.mono (by omega))
  have hbz : ∀ V, Copying w.heap.size W V → w.heap.size + 2 ≤ V.heap.size := fun V hV => Nat.le_trans z0 hV.low.size
  have HCC := Lib.hid (fun V (hV : Copying w.heap.size W V) => implClone_any hi _ cs V (h1.below (hbx V hV) hh) (Nat.le_trans hh (hbx V hV).size) hc)
  have HCS := Lib.hid (fun V (hV : Copying w.heap.size W V) => implClone_any hi _ ss V (h2.below (hbx V hV) hh) (Nat.le_trans hh (hbx V hV).size) hs)
  have HCL := Lib.hid (fun V (hV : Copying w.heap.size W V) => hV.cells b0)
  have HBX := Lib.hid hbx
  have HBZ := Lib.hid hbz
  have E0 : Copying w.heap.size W W.drew := ⟨(Below.refl _ _).drew, _, _, _, _, b1⟩
  obtain ⟨⟨p0, p1, p2, p3⟩, -⟩ := b0.cells
  clear h1 h2 b0 b1 hbx hbz
  go_region_held3 (fun V => V.cell? ⟨w.heap.size, 0, none⟩ = some (.int .i64 sp) ∧ V.cell? ⟨w.heap.size, 1, none⟩ = some (.int .i64 hd) ∧ V.cell? ⟨w.heap.size, 2, none⟩ = some (.slice A1 cs.length c1) ∧ V.cell? ⟨w.heap.size, 3, none⟩ = some (.slice A2 ss.length c2) ∧ Copying w.heap.size W V) (go_keep) (first | (go_at_call 50; refine (HCC.out _ (by assumption)).mono ?_; rintro e w2 ⟨v2, rfl, hm2, hb2⟩; have E2 : Copying w.heap.size W w2 := Copying.step (by assumption) hb2; obtain ⟨q0, q1, q2, q3⟩ := HCL.out w2 E2; obtain ⟨AU, cU, rfl, -⟩ := hm2.form; have HU := Lib.hid hm2; have HB2 := Lib.hid hb2; clear hm2 hb2) | (go_at_call 50; refine (HCS.out _ (by assumption)).mono ?_; rintro e w3 ⟨v3, rfl, hm3, hb3⟩; have E3 : Copying w.heap.size W w3 := Copying.step (by assumption) hb3; obtain ⟨r0, r1, r2, r3⟩ := HCL.out w3 E3; obtain ⟨AV, cV, rfl, -⟩ := hm3.form; obtain ⟨a, b, c, d, B1⟩ := E3.own; obtain ⟨⟨s0, s1, s2, s3⟩, f0, f1, f2, f3⟩ := B1.cells; have HB1 := Lib.hid B1; have HV := Lib.hid hm3; have HB3 := Lib.hid hb3; clear hm3 hb3 B1; have E4 := (((E3.set 0 (.int .i64 sp)).set 1 (.int .i64 hd)).set 2 (.slice AU cs.length cU)).set 3 (.slice AV ss.length cV)))
  rename_i hX
  have z1 : w.heap.size + 2 ≤ W.drew.heap.size := HBZ.out _ E0
  have z2 := HB2.out.size
  have z3 := HB3.out.size
  have HU3 := Lib.hid (HU.out.below HB3.out (Nat.le_refl _))
  have HB4 := Lib.hid (HBX.out w3 E3)
  clear hX E0 E2 E3 E4 p0 p1 p2 p3 q0 q1 q2 q3 r0 r1 r2 r3 HCC HCS HCL
  go_wp2
  refine bodyPost_ret (v := .agg #[.int .i64 sp, .int .i64 hd, .slice AU cs.length cU, .slice AV ss.length cV]) (by simp [results, Tryd.results29, go_sem, s0, s1, s2, s3]) rfl ?_
  have ht := ((((Turned.refl (w.heap.size + 1) (w.heap.size + 2) w3).set (b := w.heap.size + 1) 0 (.int .i64 sp) (by omega) (by omega)).set (b := w.heap.size + 1) 1 (.int .i64 hd) (by omega) (by omega)).set (b := w.heap.size + 1) 2 (.slice AU cs.length cU) (by omega) (by omega)).set (b := w.heap.size + 1) 3 (.slice AV ss.length cV) (by omega) (by omega)
  have hsz := ht.size
  exact ⟨_, _, rfl, ring_mine_of ((HU3.out.turned ht (.inr (by omega)) (by omega)).mono (by omega) (by omega)) ((HV.out.turned ht (.inr (by omega)) (by omega)).mono (by omega) (by omega)) (fun b h h' => by have h5 := HU3.out.blk b h; have h6 := HV.out.blk b h'; omega), HB4.out.trans (ht.below (by omega) (by omega))⟩
end Go.Proofs.YteogdfiaobccfaaDoor
