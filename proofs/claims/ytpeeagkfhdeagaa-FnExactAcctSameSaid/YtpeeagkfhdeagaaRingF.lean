/- What the law package's helpers do with rings; no conditions. -/
import Derived.Test.YtpeeagkfhdeagaaRing
import Derived.Test.YtpeeagkfhdeagaaNumsI
import Derived.Test.YtpeeagkfhdeagaaNumT
set_option linter.unusedVariables false
namespace Go.Proofs.Ytpeeagkfhdeagaa
open Go.ChangeShapes Go.WideShapes Go.ChangeAt Go.RowKit

def ringV (r : RingD) (vc vs : Value) : Value := .agg #[.int .i64 r.1, .int .i64 r.2.1, vc, vs]
set_option maxRecDepth 100000 in
set_option maxHeartbeats 1600000 in
theorem eqRing_any (hi1 hi2 : Nat) (vc vs vc' vs' : Value) (r : RingD) (w : World) (h1 : rd .i64 hi1 w vc r.2.2.1) (h2 : rd .i64 hi1 w vs r.2.2.2) (h3 : rd .i64 hi2 w vc' r.2.2.1) (h4 : rd .i64 hi2 w vs' r.2.2.2) (hh1 : hi1 ≤ w.heap.size) (hh2 : hi2 ≤ w.heap.size) (hc : r.2.2.1.length ≤ 1048576) (hs : r.2.2.2.length ≤ 1048576) :
    Calls Try.prog 25 #[.agg #[.int .i64 r.1, .int .i64 r.2.1, vc, vs], .agg #[.int .i64 r.1, .int .i64 r.2.1, vc', vs']] w fun e w' => e = .returned (.bool true) ∧ Below w.heap.size w w' := by
  obtain ⟨sp, hd, cs, ss⟩ := r
  simp only at h1 h2 h3 h4 hc hs ⊢
  obtain ⟨A1, c1, rfl, -⟩ := h1.form
  obtain ⟨A2, c2, rfl, -⟩ := h2.form
  obtain ⟨A3, c3, rfl, -⟩ := h3.form
  obtain ⟨A4, c4, rfl, -⟩ := h4.form
  have H12 := Lib.hid (fun W (hW : Below w.heap.size w W) => eqInts_any hi1 hi2 (.slice A1 cs.length c1) (.slice A3 cs.length c3) cs W (by omega) (h1.below hW hh1) (h3.below hW hh2))
  have H34 := Lib.hid (fun W (hW : Below w.heap.size w W) => eqInts_any hi1 hi2 (.slice A2 ss.length c2) (.slice A4 ss.length c4) ss W (by omega) (h2.below hW hh1) (h4.below hW hh2))
  have HB0 : Hid (∀ o1 o2, Below w.heap.size w ((w.alloc o1).alloc o2)) := Lib.hid fun o1 o2 => ((Below.refl _ _).alloc (Nat.le_refl _) o1).alloc (by simp) o2
  clear h1 h2 h3 h4
  go_enter Try.func25, Try.ntmps25
  go_wp2_with fail
  refine (H12.out _ (HB0.out _ _)).mono ?_
  rintro e w1 ⟨rfl, hb1⟩
  have q2 := (hb1.cell (p := ⟨w.heap.size, 3, none⟩) (by simp; omega)).trans (show ((w.alloc (.cells #[.int .i64 sp, .int .i64 hd, .slice A1 cs.length c1, .slice A2 ss.length c2] 33)).alloc _).cell? ⟨w.heap.size, 3, none⟩ = some (.slice A2 ss.length c2) by simp)
  have q3 := (hb1.cell (p := ⟨w.heap.size + 1, 3, none⟩) (by simp)).trans (show ((w.alloc _).alloc (.cells #[.int .i64 sp, .int .i64 hd, .slice A3 cs.length c3, .slice A4 ss.length c4] 33)).cell? ⟨w.heap.size + 1, 3, none⟩ = some (.slice A4 ss.length c4) by simp)
  have HB1 : Hid (Below w.heap.size w w1) := Lib.hid ((HB0.out _ _).trans (hb1.mono (by simp; omega)))
  have z1 : w.heap.size + 2 ≤ w1.heap.size := by have := hb1.size; simpa using this
  clear hb1
  go_wp2_with fail
  refine (H34.out _ HB1.out).mono ?_
  rintro e w2 ⟨rfl, hb2⟩
  go_wp2
  go_ret
  exact ⟨rfl, HB1.out.trans (hb2.mono (by omega))⟩
set_option maxRecDepth 100000 in
theorem nums.apart {K : IntKind} {lo hi : Nat} {w w' : World} {v : Value} {l : List Int} {row : Option Nat} (h : nums K lo hi w v l) (hg : w.grownBy w' row) (hh : hi ≤ w.heap.size) (ha : ∀ b, Proofs.Ytpeeagkfhdeagaa.blk v = some b → row ≠ some b) : nums K lo hi w' v l := by
  obtain ⟨A, c, rfl, hc, hj⟩ := h
  refine ⟨A, c, rfl, hc, fun j hl => ?_⟩
  obtain ⟨b, off, rfl, h1, h2, h3, h4⟩ := hj j hl
  have hk : w'.heap[b]? = w.heap[b]? := hg.block b (by omega) (fun e => by
    refine ha b ?_ e.symm
    cases hn : l.length with
    | zero => omega
    | succ n => rfl)
  exact ⟨b, off, rfl, h1, h2, (cell_keep hk).trans h3, (frozen_keep hk).trans h4⟩
end Go.Proofs.Ytpeeagkfhdeagaa
