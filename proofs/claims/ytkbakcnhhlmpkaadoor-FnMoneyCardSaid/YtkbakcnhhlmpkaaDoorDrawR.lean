/- What the reference draws for a window as it stands: it is right; memory of its own; no conditions. -/
import Derived.Test.YtkbakcnhhlmpkaaDoorDrawG
import Derived.Test.YtkbakcnhhlmpkaaDoorRingA
import Derived.Test.YtkbakcnhhlmpkaaDoorRingN
import Derived.Test.YtkbakcnhhlmpkaaDoorRingH
import Derived.Test.YtkbakcnhhlmpkaaDoorMemT
import Derived.Deep.RegionLaw
set_option linter.unusedVariables false
namespace Go.Proofs.YtkbakcnhhlmpkaaDoor
open Go.ChangeShapes Go.WideShapes Go.ChangeAt Go.RowKit

set_option maxRecDepth 100000 in
theorem turned_of_grown {w w' : World} {b : Nat} (h : w.grownBy w' (some b)) : Turned b (b + 1) w w' := ⟨h.os, h.tape, h.output, h.size, fun k hk hne => h.block k hk (fun e => by simp at e; omega)⟩
set_option maxRecDepth 100000 in
theorem turned_then {w u v : World} {b lo hi : Nat} (h : w.grownBy u (some b)) (ht : Turned lo hi u v) (hlo : w.heap.size ≤ lo) : w.grownBy v (some b) :=
  ⟨ht.os.trans h.os, ht.tape.trans h.tape, ht.output.trans h.output, Nat.le_trans h.size ht.size, fun k hk hne => (ht.block k (Nat.lt_of_lt_of_le hk h.size) (.inl (by omega))).trans (h.block k hk hne)⟩
set_option maxRecDepth 100000 in
theorem shiftL_mon {k : Nat} {l : List Int} (h : l.all isMon = true) : (shiftL k l).all isMon = true := by
  rw [List.all_eq_true] at h ⊢
  intro x hx
  unfold shiftL at hx
  obtain ⟨i, hi, rfl⟩ := List.mem_map.1 hx
  rw [List.mem_range] at hi
  split
  · rw [List.getD_eq_getElem?_getD, List.getElem?_eq_getElem (by omega : i - k < l.length)]
    exact h _ (List.getElem_mem _)
  · decide
set_option maxRecDepth 100000 in
theorem satVal_mon (a b : Int) : isMon (satVal a b) = true := by
  have ha := clampM_bd a
  have hb := clampM_bd b
  unfold satVal
  split
  · rename_i h
    simp [addOk, isMon] at h
    simp [isMon]; omega
  · decide
set_option maxRecDepth 100000 in
theorem addOne_mon {l : List Int} {n : Int} (h : l.all isMon = true) : (addOne l n).all isMon = true := by
  rw [List.all_eq_true] at h ⊢
  intro x hx
  unfold addOne at hx
  rcases List.mem_or_eq_of_mem_set hx with hx | rfl
  · exact h x hx
  · exact satVal_mon _ _
set_option maxRecDepth 100000 in
theorem ring_ok_parts {r : RingD} (h : ringOk r = true) : inB r.1 1 1000 = true ∧ inB (r.2.2.1.length : Int) 1 8 = true ∧ r.2.2.2.length = r.2.2.1.length ∧ timeB r.2.1 = true ∧ r.2.2.1.all isMon = true ∧ r.2.2.2.all isMon = true := by
  unfold ringOk ringHead at h
  simp only [Bool.and_eq_true, decide_eq_true_eq] at h
  exact ⟨h.1.1, h.1.2.1, h.1.2.2.1, h.1.2.2.2, h.2.1, h.2.2⟩
set_option maxRecDepth 100000 in
theorem ring_ok_of {r : RingD} (h1 : inB r.1 1 1000 = true) (h2 : inB (r.2.2.1.length : Int) 1 8 = true) (h3 : r.2.2.2.length = r.2.2.1.length) (h4 : timeB r.2.1 = true) (h5 : r.2.2.1.all isMon = true) (h6 : r.2.2.2.all isMon = true) : ringOk r = true := by
  unfold ringOk ringHead
  simp [h1, h2, h3, h4, h5, h6]
set_option maxRecDepth 100000 in
theorem ringRoll_ok {r : RingD} {now : Int} (h : ringOk r = true) (ht : timeB now = true) : ringOk (ringRoll r now) = true := by
  unfold ringRoll
  split
  · obtain ⟨h1, h2, h3, h4, h5, h6⟩ := ring_ok_parts h
    refine ring_ok_of h1 (by simpa [shiftL_len] using h2) (by simp [shiftL_len, h3]) ?_ (shiftL_mon h5) (shiftL_mon h6)
    have a1 : 1 ≤ r.1 ∧ r.1 ≤ 1000 := by simpa [inB] using h1
    have a2 : 0 ≤ now ∧ now ≤ 1000000000 := by simpa [timeB, inB] using ht
    have a3 : 0 ≤ now / r.1 := Int.ediv_nonneg a2.1 (by omega)
    have a4 : now / r.1 ≤ now := Int.ediv_le_self _ a2.1
    simp [timeB, inB]
    omega
  · exact h
set_option maxRecDepth 100000 in
theorem ringAdd_ok {r : RingD} {now amount : Int} (h : ringOk r = true) : ringOk (ringAdd r now amount) = true := by
  unfold ringAdd
  split
  · rename_i hi
    unfold ringIn at hi
    simp only [Bool.and_eq_true] at hi
    obtain ⟨h1, h2, h3, h4, h5, h6⟩ := ring_ok_parts (ringRoll_ok h hi.2.1)
    exact ring_ok_of h1 (by simpa [addOne] using h2) (by simp [addOne, h3]) h4 (addOne_mon h5) (addOne_mon h6)
  · exact h
set_option maxRecDepth 100000 in
theorem ring_ok_len {r : RingD} (h : ringOk r = true) : r.2.2.1.length ≤ 8 ∧ r.2.2.2.length ≤ 8 := by
  obtain ⟨h1, h2, h3, h4, h5, h6⟩ := ring_ok_parts h
  have a2 : (1 : Int) ≤ (r.2.2.1.length : Int) ∧ (r.2.2.1.length : Int) ≤ 8 := by simpa [inB] using h2
  omega
set_option maxRecDepth 100000 in
theorem ringNew_right {n sp : Int} (h1 : 1 ≤ n) (h2 : n ≤ 8) (h3 : 1 ≤ sp) (h4 : sp ≤ 1000) : (ringNew n sp).2 = true ∧ ringOk (ringNew n sp).1 = true := by
  have e1 : inB n 1 8 = true := decide_eq_true ⟨h1, h2⟩
  have e2 : inB sp 1 1000 = true := decide_eq_true ⟨h3, h4⟩
  unfold ringNew
  rw [e1, e2]
  refine ⟨rfl, ring_ok_of e2 ?_ (by simp) (show timeB 0 = true by decide) ?_ ?_⟩
  · show inB ((List.replicate n.toNat (0 : Int)).length : Int) 1 8 = true
    rw [List.length_replicate]
    exact decide_eq_true ⟨by omega, by omega⟩
  · show (List.replicate n.toNat (0 : Int)).all isMon = true
    rw [List.all_replicate]; simp; right; decide
  · show (List.replicate n.toNat (0 : Int)).all isMon = true
    rw [List.all_replicate]; simp; right; decide
/-- the cursor behind a draw -/
def curOn (b : Nat) (sv : Value) (w w' : World) : Prop := ∃ (i : Nat) (h : Int), i ≤ lenOf sv ∧ curAt w' b sv i h ∧ w.grownBy w' (some b)
def ringDrawn (b : Nat) (sv : Value) (w : World) (e : Ending) (w' : World) : Prop := ∃ (r : RingD) (vc vs : Value), e = .returned (.agg #[.int .i64 r.1, .int .i64 r.2.1, vc, vs]) ∧ ringOk r = true ∧ RingR.mine w.heap.size w'.heap.size w' [.int .i64 r.1, .int .i64 r.2.1, vc, vs] r ∧ curOn b sv w w'
set_option maxRecDepth 100000 in
set_option maxHeartbeats 3200000 in
theorem ringDraw_any (b : Nat) (sv : Value) (i0 : Nat) (h0 : Int) (w : World) (hc : curAt w b sv i0 h0) (hi : i0 ≤ lenOf sv) (hr : readable w b sv) :
    Calls Tryd.prog 22 #[.pointer (some ⟨b, 0, none⟩)] w (ringDrawn b sv w) := by
  have hblt := lt_of_cur hc
  have HR : Hid (∀ w' : World, w.grownBy w' (some b) → readable w' b sv) := Lib.hid fun w' hg => hr.grownAt hg (by omega)
  go_enter Tryd.func22, Tryd.ntmps22
  go_upto_region 1 with fail
  obtain ⟨W, hW⟩ : ∃ W, W = w.alloc (.cells #[.int .i64 0, .int .i64 0, .slice none 0 0, .slice none 0 0] 26) := ⟨_, rfl⟩
  have B0 : Hid (bk W w.heap.size 26 [.int .i64 0, .int .i64 0, .slice none 0 0, .slice none 0 0]) := Lib.hid (by rw [hW]; exact bk.new w _ _)
  have HC0 : Hid (curAt W b sv i0 h0) := Lib.hid (by rw [hW]; exact cur_alloc hc _)
  have HG0 : Hid (w.grownBy W (some b)) := Lib.hid (by rw [hW]; exact grown_alloc (grown_refl _ _) _)
  have z0 : w.heap.size + 1 ≤ W.heap.size := by rw [hW]; simp
  rw [← hW]
  clear hW hc hr
  go_wp2_with fail
  refine (below_any b sv i0 h0 5 W HC0.out hi (HR.out _ HG0.out) (by decide) (by decide)).mono ?_
  rintro e w1 ⟨x, i1, h1, rfl, hx0, hx1, hi1, hc1, ho1⟩
  have HC1 := Lib.hid hc1
  have HG1 := Lib.hid (grown_trans HG0.out ho1.grown)
  have B1 : Hid (bk w1 w.heap.size 26 [.int .i64 0, .int .i64 0, .slice none 0 0, .slice none 0 0]) := Lib.hid ((ho1.block w.heap.size (by omega)).trans B0.out)
  have z1 : W.heap.size ≤ w1.heap.size := by rw [ho1.size]; exact Nat.le_refl _
  clear hc1 ho1 B0 HC0 HG0
  go_wp2_with fail
  refine (below_any b sv i1 h1 6 w1 HC1.out hi1 (HR.out _ HG1.out) (by decide) (by decide)).mono ?_
  rintro e w2 ⟨y, i2, h2, rfl, hy0, hy1, hi2, hc2, ho2⟩
  have HC2 := Lib.hid hc2
  have HG2 := Lib.hid (grown_trans HG1.out ho2.grown)
  have B2 : Hid (bk w2 w.heap.size 26 [.int .i64 0, .int .i64 0, .slice none 0 0, .slice none 0 0]) := Lib.hid ((ho2.block w.heap.size (by omega)).trans B1.out)
  have z2 : w1.heap.size ≤ w2.heap.size := by rw [ho2.size]; exact Nat.le_refl _
  clear hc2 ho2 B1 HC1 HG1
  obtain ⟨hn2, hok⟩ := ringNew_right (n := 1 + x) (sp := 1 + y) (by omega) (by omega) (by omega) (by omega)
  go_wp2_with fail
  refine (specRingNew_any (1 + x) (1 + y) w2).mono ?_
  rintro e w3 ⟨vc, vs, rfl, hm3, hb3⟩
  rw [hn2]
  generalize (ringNew (1 + x) (1 + y)).1 = r0 at hm3 hok
  obtain ⟨A1, c1, rfl, -⟩ := (ring2 hm3.rd).1.form
  obtain ⟨A2, c2, rfl, -⟩ := (ring2 hm3.rd).2.form
  have HC3 : Hid (curAt w3 b sv i2 h2) := Lib.hid ((hb3.block b (by omega)).trans HC2.out)
  have HG3 := Lib.hid (grown_then HG2.out hb3 (by omega))
  have B3 : Hid (bk w3 w.heap.size 26 [.int .i64 0, .int .i64 0, .slice none 0 0, .slice none 0 0]) := Lib.hid (B2.out.below hb3 (by omega))
  have HM3 := Lib.hid hm3
  have z3 : w2.heap.size ≤ w3.heap.size := hb3.size
  clear hm3 hb3 B2 HC2 HG2
  go_upto_region 2 with fail
  obtain ⟨W4, hW4⟩ : ∃ W4, W4 = w3.alloc (.cells #[.int .i64 r0.1, .int .i64 r0.2.1, .slice A1 r0.2.2.1.length c1, .slice A2 r0.2.2.2.length c2] 26) := ⟨_, rfl⟩
  have K4 : Hid (bk W4 w3.heap.size 26 [.int .i64 r0.1, .int .i64 r0.2.1, .slice A1 r0.2.2.1.length c1, .slice A2 r0.2.2.2.length c2]) := Lib.hid (by rw [hW4]; exact bk.new w3 _ _)
  have B4 : Hid (bk W4 w.heap.size 26 [.int .i64 0, .int .i64 0, .slice none 0 0, .slice none 0 0]) := Lib.hid (by rw [hW4]; exact B3.out.alloc _)
  have HC4 : Hid (curAt W4 b sv i2 h2) := Lib.hid (by rw [hW4]; exact cur_alloc HC3.out _)
  have HG4 : Hid (w.grownBy W4 (some b)) := Lib.hid (by rw [hW4]; exact grown_alloc HG3.out _)
  have HM4 : Hid (RingR.mine (w.heap.size + 1) w3.heap.size W4 [.int .i64 r0.1, .int .i64 r0.2.1, .slice A1 r0.2.2.1.length c1, .slice A2 r0.2.2.2.length c2] r0) := Lib.hid (by rw [hW4]; exact (HM3.out.mono (by omega) (Nat.le_refl _)).below ((Below.refl w3.heap.size w3).alloc (Nat.le_refl _) _) (Nat.le_refl _))
  have z4 : w3.heap.size + 1 = W4.heap.size := by rw [hW4]; simp
  rw [← hW4]
  clear hW4 B3 HC3 HG3 HM3
  go_wp2_with fail
  refine (below_any b sv i2 h2 5 W4 HC4.out hi2 (HR.out _ HG4.out) (by decide) (by decide)).mono ?_
  rintro e w5 ⟨k5, i5, h5, rfl, hk0, hk1, hi5, hc5, ho5⟩
  have HC5 := Lib.hid hc5
  have HG5 := Lib.hid (grown_trans HG4.out ho5.grown)
  have B5 : Hid (bk w5 w.heap.size 26 [.int .i64 0, .int .i64 0, .slice none 0 0, .slice none 0 0]) := Lib.hid ((ho5.block w.heap.size (by omega)).trans B4.out)
  have K5 : Hid (bk w5 w3.heap.size 26 [.int .i64 r0.1, .int .i64 r0.2.1, .slice A1 r0.2.2.1.length c1, .slice A2 r0.2.2.2.length c2]) := Lib.hid ((ho5.block w3.heap.size (by omega)).trans K4.out)
  have HM5 := Lib.hid (HM4.out.turned (turned_of_grown ho5.grown) (.inr (by omega)) (by omega))
  have z5 : W4.heap.size = w5.heap.size := ho5.size.symm
  clear hc5 ho5 B4 K4 HC4 HG4 HM4
  obtain ⟨p, hp⟩ : ∃ p, p = w3.heap.size := ⟨_, rfl⟩
  rw [← hp] at K5 HM5 ⊢
  have hpw : w.heap.size < p := by omega
  have hp5 : p + 1 ≤ w5.heap.size := by omega
  have hz5 : w.heap.size + 1 ≤ w5.heap.size := by omega
  clear hp
  go_wp2
  go_loopw [5, 6] (fun nv kv wr => ∃ (now k : Int) (i : Nat) (h : Int) (r : RingD) (A1 : Option Addr) (c1 : Nat) (A2 : Option Addr) (c2 : Nat), nv = .int .i64 now ∧ kv = .int .i64 k ∧ 0 ≤ k ∧ 0 ≤ now ∧ now + 8 * k ≤ 32 ∧ i ≤ lenOf sv ∧ Hid (ringOk r = true) ∧ Hid (curAt wr b sv i h) ∧ Hid (w.grownBy wr (some b)) ∧ Hid (bk wr w.heap.size 26 [.int .i64 0, .int .i64 0, .slice none 0 0, .slice none 0 0]) ∧ Hid (bk wr p 26 [.int .i64 r.1, .int .i64 r.2.1, .slice A1 r.2.2.1.length c1, .slice A2 r.2.2.2.length c2]) ∧ Hid (∃ l0 l1, w.heap.size + 1 ≤ l0 ∧ (l1 ≤ p ∨ p + 1 ≤ l0) ∧ l1 ≤ wr.heap.size ∧ RingR.mine l0 l1 wr [.int .i64 r.1, .int .i64 r.2.1, .slice A1 r.2.2.1.length c1, .slice A2 r.2.2.2.length c2] r) ∧ p + 1 ≤ wr.heap.size) (fun _ kv _ => (intOf kv).toNat)
  case atStart => exact ⟨0, k5, i5, h5, r0, A1, c1, A2, c2, rfl, rfl, hk0, Int.le_refl _, by omega, hi5, Lib.hid hok, HC5, HG5, B5, K5, Lib.hid ⟨_, _, Nat.le_refl _, .inl (Nat.le_refl _), by omega, HM5.out⟩, hp5⟩
  case round =>
    obtain ⟨now, k, i, h, r, A1, c1, A2, c2, rfl, rfl, k0, n0, nk, hir, HOK, HC, HG, BB, BK, HM, hz⟩ := hrel
    by_cases hpos : 0 < k
    · go_wp2_with fail
      refine (below_any b sv i h 9 wr HC.out hir (HR.out _ HG.out) (by decide) (by decide)).mono ?_
      rintro e w6 ⟨x, i6, h6, rfl, hx0, hx1, hi6, hc6, ho6⟩
      have HC6 := Lib.hid hc6
      have HG6 := Lib.hid (grown_trans HG.out ho6.grown)
      have BB6 : Hid (bk w6 w.heap.size 26 [.int .i64 0, .int .i64 0, .slice none 0 0, .slice none 0 0]) := Lib.hid ((ho6.block w.heap.size (by omega)).trans BB.out)
      have BK6 : Hid (bk w6 p 26 [.int .i64 r.1, .int .i64 r.2.1, .slice A1 r.2.2.1.length c1, .slice A2 r.2.2.2.length c2]) := Lib.hid ((ho6.block p (by omega)).trans BK.out)
      have z6 : wr.heap.size = w6.heap.size := ho6.size.symm
      have HM6 : Hid (∃ l0 l1, w.heap.size + 1 ≤ l0 ∧ (l1 ≤ p ∨ p + 1 ≤ l0) ∧ l1 ≤ w6.heap.size ∧ RingR.mine l0 l1 w6 [.int .i64 r.1, .int .i64 r.2.1, .slice A1 r.2.2.1.length c1, .slice A2 r.2.2.2.length c2] r) := Lib.hid (by
        obtain ⟨l0, l1, q1, q2, q3, q4⟩ := HM.out
        exact ⟨l0, l1, q1, q2, by omega, q4.turned (turned_of_grown ho6.grown) (.inr (by omega)) (by omega)⟩)
      clear hc6 ho6 HC HG BB BK HM
      go_upto_region 7 with fail
      have HD6 : Hid (w6.grownBy w6.drew (some b)) := Lib.hid (grown_below (Below.drew (Below.refl w6.heap.size w6)))
      have hrl := ring_ok_len HOK.out
      have HRA : Hid (∀ W7, Turned b (b + 1) w6 W7 → ∀ y : Int, Calls Tryd.prog 38 #[.agg #[.int .i64 r.1, .int .i64 r.2.1, .slice A1 r.2.2.1.length c1, .slice A2 r.2.2.2.length c2], .int .i64 (now + x), .int .i64 (1 + y)] W7 (ringOne (ringAdd r (now + x) (1 + y)) W7)) := Lib.hid (fun W7 ht y => by
        obtain ⟨l0, l1, q1, q2, q3, q4⟩ := HM6.out
        have q5 := q4.turned ht (.inr (by omega)) (by omega)
        exact specRingAdd_any l1 _ _ r (now + x) (1 + y) W7 (ring2 q5.rd).1 (ring2 q5.rd).2 (by have := ht.size; omega) (by omega) (by omega))
      have HOA := Lib.hid (fun y : Int => ringAdd_ok (r := r) (now := now + x) (amount := 1 + y) HOK.out)
      have HKA := Lib.hid (fun W7 (ht : Turned b (b + 1) w6 W7) => BK6.out.under ht (by omega))
      have HBA := Lib.hid (fun W7 (ht : Turned b (b + 1) w6 W7) => BB6.out.under ht (by omega))
      obtain ⟨⟨p0, p1, p2, p3⟩, -⟩ := BK6.out.cells
      clear hrl HM6 BB6
      go_region_law (first
        | (go_simp; go_at_call 21; refine (below_any b sv i6 h6 90 w6.drew HC6.out hi6 (HR.out _ (grown_trans HG6.out HD6.out)) (by decide) (by decide)).mono ?_; rintro e w7 ⟨y, i7, h7, rfl, hy0, hy1, hi7, hc7, ho7⟩; have HG7 := Lib.hid (grown_trans HG6.out (grown_trans HD6.out ho7.grown)); have HT7 : Hid (Turned b (b + 1) w6 w7) := Lib.hid (turned_of_grown (grown_trans HD6.out ho7.grown)); have HC7 := Lib.hid hc7; have z7 : w6.heap.size = w7.heap.size := ho7.size.symm; have hw7 : IntKind.i64.wrap (1 + y) = 1 + y := IntWalk.i64_in _ (by omega); obtain ⟨⟨q0, q1, q2, q3⟩, -⟩ := (HKA.out w7 HT7.out).cells; clear hc7 ho7)
        | (go_simp; go_at_call 38; (with_reducible refine (HRA.out w7 HT7.out y).mono ?_); rintro e w8 ⟨vc8, vs8, rfl, hm8, hb8⟩; have hok8 := HOA.out y; generalize ringAdd r (now + x) (1 + y) = r8 at hm8 hok8 ⊢; obtain ⟨A8, d8, rfl, -⟩ := (ring2 hm8.rd).1.form; obtain ⟨A9, d9, rfl, -⟩ := (ring2 hm8.rd).2.form; have HB8 := Lib.hid hb8; have HOK8 := Lib.hid hok8; have HM8 := Lib.hid hm8; have BK8 := Lib.hid ((HKA.out w7 HT7.out).below hb8 (show p < w7.heap.size by omega)); have z8 : w7.heap.size ≤ w8.heap.size := hb8.size; obtain ⟨⟨s0, s1, s2, s3⟩, f0, f1, f2, f3⟩ := BK8.out.cells; clear hm8 hb8 hok8))
      all_goals
        go_wp2
        go_roundw
        case rel =>
          have ht := ((((Turned.refl p (p + 1) w8).set (b := p) 0 (.int .i64 r8.1) (by omega) (by omega)).set (b := p) 1 (.int .i64 r8.2.1) (by omega) (by omega)).set (b := p) 2 (.slice A8 r8.2.2.1.length d8) (by omega) (by omega)).set (b := p) 3 (.slice A9 r8.2.2.2.length d9) (by omega) (by omega)
          have hsz := ht.size
          exact ⟨now + x, k - 1, i7, h7, r8, A8, d8, A9, d9, by go_num, rfl, by omega, by omega, by omega, hi7, HOK8, Lib.hid ((ht.block b (by omega) (.inl (by omega))).trans ((HB8.out.block b (by omega)).trans HC7.out)), Lib.hid (turned_then (grown_then HG7.out HB8.out (by omega)) ht (by omega)), Lib.hid (((HBA.out w7 HT7.out).below HB8.out (by omega)).under ht (by omega)), Lib.hid ((((BK8.out.set 0 _).set 1 _).set 2 _).set 3 _), Lib.hid ⟨_, _, show w.heap.size + 1 ≤ w7.heap.size by omega, .inr (by omega), by omega, HM8.out.turned ht (.inr (by omega)) (Nat.le_refl _)⟩, by omega⟩
        case measure => simp [intOf] <;> omega
    · obtain ⟨⟨p0, p1, p2, p3⟩, -⟩ := BK.out.cells
      obtain ⟨⟨q0, q1, q2, q3⟩, f0, f1, f2, f3⟩ := BB.out.cells
      go_wp2
      refine bodyPost_ret (v := .agg #[.int .i64 r.1, .int .i64 r.2.1, .slice A1 r.2.2.1.length c1, .slice A2 r.2.2.2.length c2]) (by simp [results, Tryd.results22, go_sem, q0, q1, q2, q3]) rfl ?_
      have ht := ((((Turned.refl w.heap.size (w.heap.size + 1) wr).set (b := w.heap.size) 0 (.int .i64 r.1) (by omega) (by omega)).set (b := w.heap.size) 1 (.int .i64 r.2.1) (by omega) (by omega)).set (b := w.heap.size) 2 (.slice A1 r.2.2.1.length c1) (by omega) (by omega)).set (b := w.heap.size) 3 (.slice A2 r.2.2.2.length c2) (by omega) (by omega)
      have hsz := ht.size
      obtain ⟨l0, l1, u1, u2, u3, u4⟩ := HM.out
      exact ⟨r, _, _, rfl, HOK.out, (u4.turned ht (.inr (by omega)) (by omega)).mono (by omega) (by omega), i, h, hir, (ht.block b (by omega) (.inl (by omega))).trans HC.out, turned_then HG.out ht (by omega)⟩
end Go.Proofs.YtkbakcnhhlmpkaaDoor
