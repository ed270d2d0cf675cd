/- The law package's copy of a ring, its size; a ring that a law is given. No conditions. -/
import Derived.Test.YtpeeagkfhdeagaaDoorRingL
import Derived.Test.YtpeeagkfhdeagaaDoorOpens
set_option linter.unusedVariables false
namespace Go.Proofs.YtpeeagkfhdeagaaDoor
open Go.ChangeShapes Go.WideShapes Go.ChangeAt Go.RowKit Go.Deep

set_option maxRecDepth 100000 in
theorem open_ring {H : Type} {enc : TypeId × Value → H} {W : World} {base : Nat} {v : Value} {d : DataW H} {p : List MemPlace} (hval : Value.okWide Tryd.prog W .any base 35 v) (h : DataW.Trod enc Tryd.prog W 0 (fun _ => true) true 35 v d p) :
    ∃ (r : RingD) (vc vs : Value), v = .agg #[.int .i64 r.1, .int .i64 r.2.1, vc, vs] ∧ rd .i64 W.heap.size W vc r.2.2.1 ∧ rd .i64 W.heap.size W vs r.2.2.2 ∧ (Lit.int .i64 r.1).wf = true ∧ (Lit.int .i64 r.2.1).wf = true ∧ (r.2.2.1.length ≤ maxLen ∧ ∀ x ∈ r.2.2.1, (Lit.int .i64 x).wf = true) ∧ (r.2.2.2.length ≤ maxLen ∧ ∀ x ∈ r.2.2.2, (Lit.int .i64 x).wf = true) := by
  obtain ⟨cs, rfl, hsz⟩ := okWide_struct Tryd.underlying35 hval
  obtain ⟨fuel, hf⟩ := h
  have hI : Opens enc Tryd.prog W (Rep.int .i64) 3 _ := opens_int Tryd.underlying3
  have hL : Opens enc Tryd.prog W IntsR 23 _ := opens_slice (by decide) Tryd.underlying23 (by kernel_rfl) hI
  have hR : Opens enc Tryd.prog W RingR 35 _ := opens_struct Tryd.underlying35 (by kernel_rfl) (opensF_cons hI rfl (by kernel_rfl) (opensF_cons hI rfl (by kernel_rfl) (opensF_cons hL rfl (by kernel_rfl) (opensF_one hL rfl (by kernel_rfl)))))
  obtain ⟨r, hr, h1, h2, h3, h4⟩ := hR fuel _ _ hf
  obtain ⟨vc, vs, he, hc, hs⟩ := ring_rd hr
  refine ⟨r, vc, vs, ?_, hc, hs, h1, h2, h3, h4⟩
  have hcs : cs.toList = [.int .i64 r.1, .int .i64 r.2.1, vc, vs] := he
  rw [← hcs]

set_option maxRecDepth 100000 in
/-- one's own rows in the blocks of a frame that is written -/
theorem bk.cells {w : World} {g : Nat} {t : TypeId} {a b c d : Value} (h : bk w g t [a, b, c, d]) : (w.cell? ⟨g, 0, none⟩ = some a ∧ w.cell? ⟨g, 1, none⟩ = some b ∧ w.cell? ⟨g, 2, none⟩ = some c ∧ w.cell? ⟨g, 3, none⟩ = some d) ∧ (w.frozen? ⟨g, 0, none⟩ = false ∧ w.frozen? ⟨g, 1, none⟩ = false ∧ w.frozen? ⟨g, 2, none⟩ = false ∧ w.frozen? ⟨g, 3, none⟩ = false) :=
  ⟨⟨h.cell 0, h.cell 1, h.cell 2, h.cell 3⟩, h.frozen 0, h.frozen 1, h.frozen 2, h.frozen 3⟩
set_option maxRecDepth 100000 in
set_option maxHeartbeats 1600000 in
theorem toRing_any (hi : Nat) (vc vs : Value) (r : RingD) (w : World) (h1 : rd .i64 hi w vc r.2.2.1) (h2 : rd .i64 hi w vs r.2.2.2) (hh : hi ≤ w.heap.size) (hc : r.2.2.1.length ≤ 1048576) (hs : r.2.2.2.length ≤ 1048576) :
    Calls Tryd.prog 37 #[.agg #[.int .i64 r.1, .int .i64 r.2.1, vc, vs]] w (ringOne r w) := by
  obtain ⟨sp, hd, cs, ss⟩ := r
  simp only at h1 h2 hc hs ⊢
  obtain ⟨A1, c1, rfl, -⟩ := h1.form
  obtain ⟨A2, c2, rfl, -⟩ := h2.form
  have HT1 := Lib.hid (fun W (hW : Below w.heap.size w W) => toInts_any hi (.slice A1 cs.length c1) cs W hc (h1.below hW hh) (Nat.le_trans hh hW.size))
  have HT2 := Lib.hid (fun W (hW : Below w.heap.size w W) => toInts_any hi (.slice A2 ss.length c2) ss W hs (h2.below hW hh) (Nat.le_trans hh hW.size))
  clear h1 h2
  go_enter Tryd.func37, Tryd.ntmps37
  go_wp2_with fail
  obtain ⟨W, hW⟩ : ∃ W, W = ((w.alloc (.cells #[.int .i64 sp, .int .i64 hd, .slice A1 cs.length c1, .slice A2 ss.length c2] 35)).alloc (.cells #[.int .i64 0, .int .i64 0, .slice none 0 0, .slice none 0 0] 25)).alloc (.cells #[.int .i64 sp, .int .i64 hd, .slice none 0 0, .slice none 0 0] 25) := ⟨_, rfl⟩
  have b0 : bk W w.heap.size 35 [.int .i64 sp, .int .i64 hd, .slice A1 cs.length c1, .slice A2 ss.length c2] := by rw [hW]; exact ((bk.new w _ _).alloc _).alloc _
  have b1 : bk W (w.heap.size + 1) 25 [.int .i64 0, .int .i64 0, .slice none 0 0, .slice none 0 0] := by rw [hW]; exact (by simpa using bk.new (w.alloc _) _ _ : bk _ (w.heap.size + 1) _ _).alloc _
  have b2 : bk W (w.heap.size + 1 + 1) 25 [.int .i64 sp, .int .i64 hd, .slice none 0 0, .slice none 0 0] := by rw [hW]; simpa using bk.new ((w.alloc _).alloc _) _ _
  have HB0 : Hid (Below w.heap.size w W) := Lib.hid (by rw [hW]; exact (((Below.refl _ _).alloc (Nat.le_refl _) _).alloc (by simp) _).alloc (by simp; omega) _)
  have hz0 : W.heap.size = w.heap.size + 3 := by rw [hW]; simp
  rw [← hW]
  clear hW
  refine (HT1.out W HB0.out).mono ?_
  rintro e w1 ⟨u1, rfl, hu1, hb1⟩
  obtain ⟨AU, cU, rfl, -⟩ := hu1.form
  have z1 := hb1.size
  have HU1 := Lib.hid hu1
  have HB1 : Hid (Below w.heap.size w w1) := Lib.hid (HB0.out.trans (hb1.mono (by omega)))
  replace b0 := b0.below hb1 (by omega)
  replace b1 := b1.below hb1 (by omega)
  replace b2 := b2.below hb1 (by omega)
  clear hb1 HB0
  obtain ⟨⟨p0, p1, p2, p3⟩, -⟩ := b0.cells
  obtain ⟨⟨q0, q1, q2, q3⟩, f0, f1, f2, f3⟩ := b2.cells
  have B0 := Lib.hid b0
  have B1 := Lib.hid b1
  have B2 := Lib.hid b2
  clear b0 b1 b2
  go_wp2_with fail
  obtain ⟨W2, hW2⟩ : ∃ W2, W2 = w1.setCell ⟨w.heap.size + 1 + 1, 2, none⟩ (.slice AU cs.length cU) := ⟨_, rfl⟩
  rw [← hW2]
  have b0 := B0.out.far (p := ⟨w.heap.size + 1 + 1, 2, none⟩) (show w.heap.size ≠ w.heap.size + 1 + 1 by omega) (.slice AU cs.length cU)
  have b1 := B1.out.far (p := ⟨w.heap.size + 1 + 1, 2, none⟩) (show w.heap.size + 1 ≠ w.heap.size + 1 + 1 by omega) (.slice AU cs.length cU)
  have b2 := B2.out.set 2 (.slice AU cs.length cU)
  rw [← hW2] at b0 b1 b2
  have HU2 : Hid (nums .i64 W.heap.size w1.heap.size W2 (.slice AU cs.length cU) cs) := Lib.hid (by rw [hW2]; exact HU1.out.far _ (fun h => by have := HU1.out.blk _ h; omega))
  have HB2 : Hid (Below w.heap.size w W2) := Lib.hid (by rw [hW2]; exact HB1.out.setCell (p := ⟨_, _, none⟩) (show w.heap.size ≤ w.heap.size + 1 + 1 by omega) _)
  have z2 : W2.heap.size = w1.heap.size := by rw [hW2]; simp
  clear hW2 p0 p1 p2 p3 q0 q1 q2 q3 f0 f1 f2 f3 HU1 HB1 B0 B1 B2
  refine (HT2.out W2 HB2.out).mono ?_
  rintro e w3 ⟨u3, rfl, hu3, hb3⟩
  obtain ⟨AV, cV, rfl, -⟩ := hu3.form
  have z3 := hb3.size
  have HU3 := Lib.hid (HU2.out.below hb3 (by omega))
  have HV3 := Lib.hid hu3
  have HB3 : Hid (Below w.heap.size w w3) := Lib.hid (HB2.out.trans (hb3.mono (by omega)))
  replace b0 := b0.below hb3 (by omega)
  replace b1 := b1.below hb3 (by omega)
  replace b2 := b2.below hb3 (by omega)
  clear hb3 hu3 HB2 HU2
  obtain ⟨⟨p0, p1, p2, p3⟩, -⟩ := b0.cells
  obtain ⟨⟨q0, q1, q2, q3⟩, f0, f1, f2, f3⟩ := b2.cells
  obtain ⟨⟨r0, r1, r2, r3⟩, g0, g1, g2, g3⟩ := b1.cells
  clear b0 b1 b2
  go_wp2
  refine bodyPost_ret (v := .agg #[.int .i64 sp, .int .i64 hd, .slice AU cs.length cU, .slice AV ss.length cV]) (by simp [results, Tryd.results37, go_sem, r0, r1, r2, r3]) rfl ?_
  have ht := (((((Turned.refl w.heap.size (w.heap.size + 3) w3).set (b := w.heap.size + 1 + 1) 3 (.slice AV ss.length cV) (by omega) (by omega)).set (b := w.heap.size + 1) 0 (.int .i64 sp) (by omega) (by omega)).set (b := w.heap.size + 1) 1 (.int .i64 hd) (by omega) (by omega)).set (b := w.heap.size + 1) 2 (.slice AU cs.length cU) (by omega) (by omega)).set (b := w.heap.size + 1) 3 (.slice AV ss.length cV) (by omega) (by omega)
  have hsz := ht.size
  exact ⟨_, _, rfl, ring_mine_of ((HU3.out.turned ht (.inr (by omega)) (by omega)).mono (by omega) (by omega)) ((HV3.out.turned ht (.inr (by omega)) (by omega)).mono (by omega) (by omega)) (fun b h h' => by have h5 := HU3.out.blk b h; have h6 := HV3.out.blk b h'; omega), HB3.out.trans (ht.below (Nat.le_refl _) (by omega))⟩
/-- what a ring takes of the bound -/
def ringSz (r : RingD) : Int := r.2.2.1.length + r.2.2.2.length
set_option maxRecDepth 100000 in
set_option maxHeartbeats 1600000 in
theorem szRing_any (vc vs : Value) (r : RingD) (left : Int) (w : World) {hi : Nat} (h1 : rd .i64 hi w vc r.2.2.1) (h2 : rd .i64 hi w vs r.2.2.2) (hc : r.2.2.1.length ≤ maxLen) (hs : r.2.2.2.length ≤ maxLen) (hl0 : 0 ≤ left) (hl1 : left ≤ 1048576) :
    Calls Tryd.prog 26 #[.agg #[.int .i64 r.1, .int .i64 r.2.1, vc, vs], .int .i64 left] w fun e w' => ∃ q : Int, e = .returned (.int .i64 q) ∧ (q = -1 ∨ (q = left - ringSz r ∧ 0 ≤ q)) ∧ Below w.heap.size w w' := by
  obtain ⟨sp, hd, cs, ss⟩ := r
  simp only [ringSz] at h1 h2 hc hs ⊢
  obtain ⟨A1, c1, rfl, -⟩ := h1.form
  obtain ⟨A2, c2, rfl, -⟩ := h2.form
  clear h1 h2
  unfold maxLen at hc hs
  have HI := Lib.hid (fun (n c : Nat) (A : Option Addr) (l : Int) (W : World) (h1 : n ≤ 9223372036854775807) (h0 : 0 ≤ l) (h2 : l ≤ 1048576) => (show Calls Tryd.prog 52 #[.slice A n c, .int .i64 l] W (fun e w' => e = .returned (.int .i64 (if l - n < 0 then -1 else l - n)) ∧ W = w') by
    have hw : IntKind.i64.wrap (l - n) = l - n := IntWalk.i64_in _ (by omega)
    by_cases hn : l - n < 0
    · rw [if_pos hn]
      go_enter Tryd.func52, Tryd.ntmps52
      go_wp2
      go_ret
      exact ⟨rfl, rfl⟩
    · rw [if_neg hn]
      go_enter Tryd.func52, Tryd.ntmps52
      go_wp2
      go_ret
      exact ⟨rfl, rfl⟩))
  have HB0 : Hid (Below w.heap.size w (w.alloc (.cells #[.int .i64 sp, .int .i64 hd, .slice A1 cs.length c1, .slice A2 ss.length c2] 35))) := Lib.hid ((Below.refl _ _).alloc (Nat.le_refl _) _)
  by_cases hn1 : left - (cs.length : Int) < 0
  · go_enter Tryd.func26, Tryd.ntmps26
    go_wp2_with fail
    refine (HI.out _ _ _ _ _ (by omega) hl0 hl1).mono ?_
    rw [if_pos hn1]
    rintro e w1 ⟨rfl, rfl⟩
    go_wp2
    go_ret
    exact ⟨_, rfl, .inl rfl, HB0.out⟩
  by_cases hn2 : left - (cs.length : Int) - (ss.length : Int) < 0
  · have hq : ¬ (left - (cs.length : Int) < 0) := hn1
    go_enter Tryd.func26, Tryd.ntmps26
    go_wp2_with fail
    refine (HI.out _ _ _ _ _ (by omega) hl0 hl1).mono ?_
    rw [if_neg (by omega : ¬ (left - (cs.length : Int) < 0))]
    rintro e w1 ⟨rfl, rfl⟩
    go_wp2_with fail
    refine (HI.out _ _ _ _ _ (by omega) (by omega) (by omega)).mono ?_
    rw [if_pos hn2]
    rintro e w1 ⟨rfl, rfl⟩
    go_wp2
    go_ret
    exact ⟨_, rfl, .inl rfl, HB0.out⟩
  · go_enter Tryd.func26, Tryd.ntmps26
    go_wp2_with fail
    refine (HI.out _ _ _ _ _ (by omega) hl0 hl1).mono ?_
    rw [if_neg (by omega : ¬ (left - (cs.length : Int) < 0))]
    rintro e w1 ⟨rfl, rfl⟩
    go_wp2_with fail
    refine (HI.out _ _ _ _ _ (by omega) (by omega) (by omega)).mono ?_
    rw [if_neg (by omega : ¬ (left - (cs.length : Int) - (ss.length : Int) < 0))]
    rintro e w1 ⟨rfl, rfl⟩
    go_wp2
    go_ret
    exact ⟨_, rfl, .inr ⟨by omega, by omega⟩, HB0.out⟩
end Go.Proofs.YtpeeagkfhdeagaaDoor
