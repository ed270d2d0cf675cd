/- What the law package's helpers do with rings; no conditions. -/
import Derived.Test.YtpeeagkfhdeagaaGreatDoorRing
import Derived.Test.YtpeeagkfhdeagaaGreatDoorNumsI
import Derived.Test.YtpeeagkfhdeagaaGreatDoorNumT
set_option linter.unusedVariables false
namespace Go.Proofs.YtpeeagkfhdeagaaGreatDoor
open Go.ChangeShapes Go.WideShapes Go.ChangeAt Go.RowKit

def ringV (r : RingD) (vc vs : Value) : Value := .agg #[.int .i64 r.1, .int .i64 r.2.1, vc, vs]
set_option maxRecDepth 100000 in
set_option maxHeartbeats 1600000 in
theorem eqRing_any (hi1 hi2 : Nat) (vc vs vc' vs' : Value) (r : RingD) (w : World) (h1 : rd .i64 hi1 w vc r.2.2.1) (h2 : rd .i64 hi1 w vs r.2.2.2) (h3 : rd .i64 hi2 w vc' r.2.2.1) (h4 : rd .i64 hi2 w vs' r.2.2.2) (hh1 : hi1 ≤ w.heap.size) (hh2 : hi2 ≤ w.heap.size) (hc : r.2.2.1.length ≤ 1048576) (hs : r.2.2.2.length ≤ 1048576) :
    Calls Tryz.prog 31 #[.agg #[.int .i64 r.1, .int .i64 r.2.1, vc, vs], .agg #[.int .i64 r.1, .int .i64 r.2.1, vc', vs']] w fun e w' => e = .returned (.bool true) ∧ Below w.heap.size w w' := by
  obtain ⟨sp, hd, cs, ss⟩ := r
  simp only at h1 h2 h3 h4 hc hs ⊢
  obtain ⟨A1, c1, rfl, -⟩ := h1.form
  obtain ⟨A2, c2, rfl, -⟩ := h2.form
  obtain ⟨A3, c3, rfl, -⟩ := h3.form
  obtain ⟨A4, c4, rfl, -⟩ := h4.form
  have H12 := Lib.hid (fun W (hW : Below w.heap.size w W) => eqInts_any hi1 hi2 (.slice A1 cs.length c1) (.slice A3 cs.length c3) cs W (by omega) (h1.below hW hh1) (h3.below hW hh2))
  have H34 := Lib.hid (fun W (hW : Below w.heap.size w W) => eqInts_any hi1 hi2 (.slice A2 ss.length c2) (.slice A4 ss.length c4) ss W (by omega) (h2.below hW hh1) (h4.below hW hh2))
  have HB0 : Hid (∀ o1 o2, Below w.heap.size w ((w.alloc o1).alloc o2)) := Lib.hid fun o1 o2 => ((Below.refl _ _).alloc (Nat.le_refl _) o1).alloc (by simp) o2
  clear h1 h2 h3 h4
  go_enter Tryz.func31, Tryz.ntmps31
  go_wp2_with fail
  refine (H12.out _ (HB0.out _ _)).mono ?_
  rintro e w1 ⟨rfl, hb1⟩
  have q2 := (hb1.cell (p := ⟨w.heap.size, 3, none⟩) (by simp; omega)).trans (show ((w.alloc (.cells #[.int .i64 sp, .int .i64 hd, .slice A1 cs.length c1, .slice A2 ss.length c2] 32)).alloc _).cell? ⟨w.heap.size, 3, none⟩ = some (.slice A2 ss.length c2) by simp)
  have q3 := (hb1.cell (p := ⟨w.heap.size + 1, 3, none⟩) (by simp)).trans (show ((w.alloc _).alloc (.cells #[.int .i64 sp, .int .i64 hd, .slice A3 cs.length c3, .slice A4 ss.length c4] 32)).cell? ⟨w.heap.size + 1, 3, none⟩ = some (.slice A4 ss.length c4) by simp)
  have HB1 : Hid (Below w.heap.size w w1) := Lib.hid ((HB0.out _ _).trans (hb1.mono (by simp; omega)))
  have z1 : w.heap.size + 2 ≤ w1.heap.size := by have := hb1.size; simpa using this
  clear hb1
  go_wp2_with fail
  refine (H34.out _ HB1.out).mono ?_
  rintro e w2 ⟨rfl, hb2⟩
  go_wp2
  go_ret
  exact ⟨rfl, HB1.out.trans (hb2.mono (by omega))⟩
set_option maxRecDepth 100000 in
theorem nums.apart {K : IntKind} {lo hi : Nat} {w w' : World} {v : Value} {l : List Int} {row : Option Nat} (h : nums K lo hi w v l) (hg : w.grownBy w' row) (hh : hi ≤ w.heap.size) (ha : ∀ b, Proofs.YtpeeagkfhdeagaaGreatDoor.blk v = some b → row ≠ some b) : nums K lo hi w' v l := by
  obtain ⟨A, c, rfl, hc, hj⟩ := h
  refine ⟨A, c, rfl, hc, fun j hl => ?_⟩
  obtain ⟨b, off, rfl, h1, h2, h3, h4⟩ := hj j hl
  have hk : w'.heap[b]? = w.heap[b]? := hg.block b (by omega) (fun e => by
    refine ha b ?_ e.symm
    cases hn : l.length with
    | zero => omega
    | succ n => rfl)
  exact ⟨b, off, rfl, h1, h2, (cell_keep hk).trans h3, (frozen_keep hk).trans h4⟩
set_option maxRecDepth 100000 in
set_option maxHeartbeats 1600000 in
theorem markRing_any (lo hi : Nat) (vc vs : Value) (r : RingD) (k : Int) (w : World) (hk0 : 0 ≤ k) (hk1 : k ≤ 1000000000) (h1 : nums .i64 lo hi w vc r.2.2.1) (h2 : nums .i64 lo hi w vs r.2.2.2) (ha : ∀ b, blk vc = some b → blk vs ≠ some b) (hh : hi ≤ w.heap.size) (hc : r.2.2.1.length ≤ 1048576) (hs : r.2.2.2.length ≤ 1048576) :
    Calls Tryz.prog 38 #[.agg #[.int .i64 r.1, .int .i64 r.2.1, vc, vs], .int .i64 k] w fun e w' => e = .returned (.int .i64 (k + r.2.2.1.length + r.2.2.2.length)) ∧ nums .i64 lo hi w' vc (marksL (fun x => x) k r.2.2.1.length) ∧ nums .i64 lo hi w' vs (marksL (fun x => x) (k + r.2.2.1.length) r.2.2.2.length) ∧ Turned lo hi w w' := by
  obtain ⟨sp, hd, cs, ss⟩ := r
  simp only at h1 h2 hc hs ⊢
  have hb1 := h1.blk
  have hb2 := h2.blk
  obtain ⟨A1, c1, rfl, -⟩ := h1.form
  obtain ⟨A2, c2, rfl, -⟩ := h2.form
  have HM1 := Lib.hid (fun W h => markInts_any lo hi (.slice A1 cs.length c1) cs k W (by omega) hk0 (by omega) h)
  have HM2 := Lib.hid (fun W h => markInts_any lo hi (.slice A2 ss.length c2) ss (k + cs.length) W (by omega) (by omega) (by omega) h)
  have HB0 : Hid (Below w.heap.size w (w.alloc (.cells #[.int .i64 sp, .int .i64 hd, .slice A1 cs.length c1, .slice A2 ss.length c2] 32))) := Lib.hid ((Below.refl _ _).alloc (Nat.le_refl _) _)
  have H1 := Lib.hid h1
  have H2 := Lib.hid h2
  have HA := Lib.hid ha
  have HK1 := Lib.hid hb1
  have HK2 := Lib.hid hb2
  clear h1 h2 ha hb1 hb2
  go_enter Tryz.func38, Tryz.ntmps38
  go_wp2_with fail
  refine (HM1.out _ (H1.out.below HB0.out hh)).mono ?_
  rintro e w1 ⟨rfl, hn1, hg1⟩
  have hbw : w.heap.size < (w.alloc (.cells #[.int .i64 sp, .int .i64 hd, .slice A1 cs.length c1, .slice A2 ss.length c2] 32)).heap.size := by simp
  have hkeep : w1.heap[w.heap.size]? = some (.cells #[.int .i64 sp, .int .i64 hd, .slice A1 cs.length c1, .slice A2 ss.length c2] 32 (0, 0)) := (hg1.block _ hbw (fun e => by have := HK1.out _ e.symm; omega)).trans (heap_alloc_new _ _)
  have k3 := cell_of_row _ _ 3 _ _ (0, 0) hkeep
  simp only [List.getElem?_toArray, List.getElem?_cons_zero, List.getElem?_cons_succ] at k3
  have HN1 := Lib.hid hn1
  have HN2 := Lib.hid ((H2.out.below HB0.out hh).apart hg1 (by simp; omega) (fun b hb e => HA.out b e hb))
  have HT1 : Hid (Turned lo hi w w1) := Lib.hid ((Turned.of_below HB0.out).trans (Turned.of_grown hg1 HK1.out))
  have z1 : w.heap.size + 1 ≤ w1.heap.size := by have := hg1.size; simpa using this
  clear hn1 hg1 hkeep hbw
  go_wp2_with fail
  refine (HM2.out _ HN2.out).mono ?_
  rintro e w2 ⟨rfl, hn2, hg2⟩
  have HN3 := Lib.hid (HN1.out.apart hg2 (by omega) (fun b hb e => HA.out b hb e))
  have HN4 := Lib.hid hn2
  have HT2 : Hid (Turned lo hi w w2) := Lib.hid (HT1.out.trans (Turned.of_grown hg2 HK2.out))
  clear hn2 hg2
  go_wp2
  go_ret
  exact ⟨rfl, HN3.out, HN4.out, HT2.out⟩
set_option maxRecDepth 100000 in
set_option maxHeartbeats 1600000 in
theorem heldRing_any (hi : Nat) (vc vs : Value) (sp hd : Int) (nc ns : Nat) (k : Int) (w : World) (hk0 : 0 ≤ k) (hk1 : k ≤ 1000000000) (h1 : rd .i64 hi w vc (marksL (fun x => x) k nc)) (h2 : rd .i64 hi w vs (marksL (fun x => x) (k + nc) ns)) (hh : hi ≤ w.heap.size) (hc : nc ≤ 1048576) (hs : ns ≤ 1048576) :
    Calls Tryz.prog 41 #[.agg #[.int .i64 sp, .int .i64 hd, vc, vs], .int .i64 k] w fun e w' => e = .returned (.int .i64 (k + nc + ns)) ∧ Below w.heap.size w w' := by
  obtain ⟨A1, c1, rfl, -⟩ := h1.form
  obtain ⟨A2, c2, rfl, -⟩ := h2.form
  have HM1 := Lib.hid (fun W (hW : Below w.heap.size w W) => heldInts_any hi _ nc k W (by omega) hk0 (by omega) (h1.below hW hh))
  have HM2 := Lib.hid (fun W (hW : Below w.heap.size w W) => heldInts_any hi _ ns (k + nc) W (by omega) (by omega) (by omega) (h2.below hW hh))
  rw [marks_length] at HM1 HM2 ⊢
  rw [marks_length]
  clear h1 h2
  have HB0 : Hid (Below w.heap.size w (w.alloc (.cells #[.int .i64 sp, .int .i64 hd, .slice A1 nc c1, .slice A2 ns c2] 32))) := Lib.hid ((Below.refl _ _).alloc (Nat.le_refl _) _)
  go_enter Tryz.func41, Tryz.ntmps41
  go_wp2_with fail
  refine (HM1.out _ HB0.out).mono ?_
  rintro e w1 ⟨rfl, hb1⟩
  have q3 := (hb1.cell (p := ⟨w.heap.size, 3, none⟩) (by simp)).trans (show (w.alloc (.cells #[.int .i64 sp, .int .i64 hd, .slice A1 nc c1, .slice A2 ns c2] 32)).cell? ⟨w.heap.size, 3, none⟩ = some (.slice A2 ns c2) by simp)
  have HB1 : Hid (Below w.heap.size w w1) := Lib.hid (HB0.out.trans (hb1.mono (by simp)))
  have z1 : w.heap.size + 1 ≤ w1.heap.size := by have := hb1.size; simpa using this
  have kk : ¬ (k + (nc : Int) < 0) := by omega
  clear hb1
  go_wp2_with fail
  refine (HM2.out _ HB1.out).mono ?_
  rintro e w2 ⟨rfl, hb2⟩
  have kk2 : ¬ (k + (nc : Int) + (ns : Int) < 0) := by omega
  go_wp2
  go_ret
  exact ⟨rfl, HB1.out.trans (hb2.mono (by omega))⟩
end Go.Proofs.YtpeeagkfhdeagaaGreatDoor
