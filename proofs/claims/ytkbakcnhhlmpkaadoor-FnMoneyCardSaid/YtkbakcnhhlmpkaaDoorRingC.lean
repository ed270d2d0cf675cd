/- A ring's copy by the reference; no conditions. -/
import Derived.Test.YtkbakcnhhlmpkaaDoorRingT
import Derived.Test.YtkbakcnhhlmpkaaDoorAppAll
import Derived.Deep.Cut
set_option linter.unusedVariables false
namespace Go.Proofs.YtkbakcnhhlmpkaaDoor
open Go.ChangeShapes Go.WideShapes Go.ChangeAt Go.RowKit

set_option maxRecDepth 100000 in
theorem ow_void (T : TypeId) (K : IntKind) (w : World) : ow T K w.heap.size (w.alloc (.cells #[] T)) (.slice (some ⟨w.heap.size, 0, none⟩) 0 0) [] := by
  refine ⟨rfl, Or.inr ⟨w.heap.size, 0, #[], rfl, Nat.le_refl _, ?_, Nat.le_refl _, Nat.zero_le _, rfl, rfl⟩⟩
  show (w.heap.push _)[w.heap.size]? = _
  simp
set_option maxRecDepth 100000 in
set_option maxHeartbeats 1600000 in
theorem specCopy_any (hi : Nat) (vc vs : Value) (r : RingD) (w : World) (h1 : rd .i64 hi w vc r.2.2.1) (h2 : rd .i64 hi w vs r.2.2.2) (hh : hi ≤ w.heap.size) (hc : r.2.2.1.length ≤ 1048576) (hs : r.2.2.2.length ≤ 1048576) :
    Calls Tryd.prog 56 #[.agg #[.int .i64 r.1, .int .i64 r.2.1, vc, vs]] w (ringOne r w) := by
  obtain ⟨sp, hd, cs, ss⟩ := r
  simp only at h1 h2 hc hs ⊢
  obtain ⟨A1, c1, rfl, -⟩ := h1.form
  obtain ⟨A2, c2, rfl, -⟩ := h2.form
  have HC := Lib.hid h1
  have HS := Lib.hid h2
  clear h1 h2
  go_enter Tryd.func56, Tryd.ntmps56
  go_upto_region 1 with fail
  obtain ⟨W, hW⟩ : ∃ W, W = (w.alloc (.cells #[.int .i64 sp, .int .i64 hd, .slice A1 cs.length c1, .slice A2 ss.length c2] 26)).alloc (.cells #[.int .i64 0, .int .i64 0, .slice none 0 0, .slice none 0 0] 26) := ⟨_, rfl⟩
  have b0 : bk W w.heap.size 26 [.int .i64 sp, .int .i64 hd, .slice A1 cs.length c1, .slice A2 ss.length c2] := by rw [hW]; exact (bk.new w _ _).alloc _
  have b1 : bk W (w.heap.size + 1) 26 [.int .i64 0, .int .i64 0, .slice none 0 0, .slice none 0 0] := by rw [hW]; simpa using bk.new (w.alloc _) _ _
  have HB0 : Hid (Below w.heap.size w W) := Lib.hid (by rw [hW]; exact ((Below.refl _ _).alloc (Nat.le_refl _) _).alloc (by simp) _)
  have z0 : w.heap.size + 2 ≤ W.heap.size := by rw [hW]; simp
  rw [← hW]
  clear hW
  obtain ⟨⟨p0, p1, p2, p3⟩, q0, q1, q2, q3⟩ := b0.cells
  have B0 := Lib.hid b0
  have B1 := Lib.hid b1
  clear b0 b1
  have y0 : w.heap.size < W.heap.size := by omega
  go_wp2_with (at_builtin; refine app_all (W.alloc (.cells #[] 3)) rfl _ _ 24 rfl W.heap.size 3 .i64 8 Tryd.underlying24 infoI64 _ [] rfl (ow_void _ _ W) hi _ cs (by rfl) (HC.out.below (HB0.out.alloc (by omega) _) hh) (by unfold maxLen; simp; omega) (by simp; omega) (by simp) ?_)
  intro v1 w1 hv1 hg1 hb1
  have hn1 := hv1.nums
  obtain ⟨AU, cU, rfl, -⟩ := hn1.form
  have z1 : W.heap.size + 1 ≤ w1.heap.size := by have := hg1.size; simpa using this
  have hb1' : Below W.heap.size W w1 := ((Below.refl _ _).alloc (Nat.le_refl _) _).trans hb1
  have b0 := B0.out.below hb1' (by omega)
  have b1 := B1.out.below hb1' (by omega)
  have HB1 : Hid (Below w.heap.size w w1) := Lib.hid (HB0.out.trans (hb1'.mono (by omega)))
  have HU1 := Lib.hid hn1
  clear hv1 hg1 hb1 hb1' hn1 p0 p1 p2 p3 q0 q1 q2 q3 HB0 B0 B1
  obtain ⟨⟨p0, p1, p2, p3⟩, q0, q1, q2, q3⟩ := b0.cells
  have B0 := Lib.hid b0
  have B1 := Lib.hid b1
  clear b0 b1
  go_upto_region 2 with fail
  obtain ⟨W2, hW2⟩ : ∃ W2, W2 = w1.setCell ⟨w.heap.size, 2, none⟩ (.slice AU cs.length cU) := ⟨_, rfl⟩
  rw [← hW2]
  have b0 := B0.out.set 2 (.slice AU cs.length cU)
  have b1 := B1.out.far (p := ⟨w.heap.size, 2, none⟩) (show w.heap.size + 1 ≠ w.heap.size by omega) (.slice AU cs.length cU)
  rw [← hW2] at b0 b1
  have HU2 : Hid (nums .i64 W.heap.size w1.heap.size W2 (.slice AU cs.length cU) cs) := Lib.hid (by rw [hW2]; exact HU1.out.far _ (fun h => by have := HU1.out.blk _ h; omega))
  have HB2 : Hid (Below w.heap.size w W2) := Lib.hid (by rw [hW2]; exact HB1.out.setCell (p := ⟨_, _, none⟩) (Nat.le_refl _) _)
  have z2 : w1.heap.size ≤ W2.heap.size := by rw [hW2]; simp
  clear hW2 p0 p1 p2 p3 q0 q1 q2 q3 HU1 HB1 B0 B1
  obtain ⟨⟨p0, p1, p2, p3⟩, q0, q1, q2, q3⟩ := b0.cells
  have B0 := Lib.hid b0
  have B1 := Lib.hid b1
  clear b0 b1
  have y2 : w.heap.size < W2.heap.size := by omega
  go_wp2_with (at_builtin; refine app_all (W2.alloc (.cells #[] 3)) rfl _ _ 24 rfl W2.heap.size 3 .i64 8 Tryd.underlying24 infoI64 _ [] rfl (ow_void _ _ W2) hi _ ss (by rfl) (HS.out.below (HB2.out.alloc (by omega) _) hh) (by unfold maxLen; simp; omega) (by simp; omega) (by simp) ?_)
  intro v3 w3 hv3 hg3 hb3
  have hn3 := hv3.nums
  obtain ⟨AV, cV, rfl, -⟩ := hn3.form
  have z3 : W2.heap.size + 1 ≤ w3.heap.size := by have := hg3.size; simpa using this
  have hb3' : Below W2.heap.size W2 w3 := ((Below.refl _ _).alloc (Nat.le_refl _) _).trans hb3
  have b0 := B0.out.below hb3' (by omega)
  have b1 := B1.out.below hb3' (by omega)
  have HB3 : Hid (Below w.heap.size w w3) := Lib.hid (HB2.out.trans (hb3'.mono (by omega)))
  have HU3 := Lib.hid (HU2.out.below hb3' (by omega))
  have HV3 := Lib.hid hn3
  clear hv3 hg3 hb3 hb3' hn3 p0 p1 p2 p3 q0 q1 q2 q3 HB2 B0 B1 HU2
  obtain ⟨⟨p0, p1, p2, p3⟩, q0, q1, q2, q3⟩ := b0.cells
  obtain ⟨⟨r0, r1, r2, r3⟩, f0, f1, f2, f3⟩ := b1.cells
  clear b0 b1
  go_wp2
  refine bodyPost_ret (v := .agg #[.int .i64 sp, .int .i64 hd, .slice AU cs.length cU, .slice AV ss.length cV]) (by simp [results, Tryd.results56, go_sem, r0, r1, r2, r3]) rfl ?_
  have ht := (((((Turned.refl w.heap.size (w.heap.size + 2) w3).set (b := w.heap.size) 3 (.slice AV ss.length cV) (by omega) (by omega)).set (b := w.heap.size + 1) 0 (.int .i64 sp) (by omega) (by omega)).set (b := w.heap.size + 1) 1 (.int .i64 hd) (by omega) (by omega)).set (b := w.heap.size + 1) 2 (.slice AU cs.length cU) (by omega) (by omega)).set (b := w.heap.size + 1) 3 (.slice AV ss.length cV) (by omega) (by omega)
  have hsz := ht.size
  exact ⟨_, _, rfl, ring_mine_of ((HU3.out.turned ht (.inr (by omega)) (by omega)).mono (by omega) (by omega)) ((HV3.out.turned ht (.inr (by omega)) (by omega)).mono (by omega) (by omega)) (fun b h h' => by have h5 := HU3.out.blk b h; have h6 := HV3.out.blk b h'; omega), HB3.out.trans (ht.below (Nat.le_refl _) (by omega))⟩
end Go.Proofs.YtkbakcnhhlmpkaaDoor
