/- RingRoll of the reference; no conditions. -/
import Derived.Test.YthnimmagaocipaaGreatDoorMrg3
import Derived.Test.YthnimmagaocipaaGreatDoorMrg2
import Derived.Deep.DeepCutAuto
import Derived.StillTailTactics
import Derived.BigQuiet
import Derived.Test.YthnimmagaocipaaGreatDoorMrg4
import Derived.Test.YthnimmagaocipaaGreatDoorMrg1
import Derived.Lib.Bytealg
import Derived.Laws.IdiomCopy
import Derived.Lib.SliceRun
import Derived.Shelf.Abstract
set_option linter.unusedVariables false
namespace Go.Proofs.YthnimmagaocipaaGreatDoor
open Go.ChangeShapes Go.WideShapes Go.ChangeAt Go.RowKit

def mixL (k i : Nat) (l : List Int) : List Int := (shiftL k l).take i ++ l.drop i
set_option maxRecDepth 100000 in
theorem mixL_len {k i : Nat} {l : List Int} (h : i ≤ l.length) : (mixL k i l).length = l.length := by
  unfold mixL
  rw [List.length_append, List.length_take, List.length_drop, shiftL_len]; omega
set_option maxRecDepth 100000 in
theorem mixL_zero (k : Nat) (l : List Int) : mixL k 0 l = l := by simp [mixL]
set_option maxRecDepth 100000 in
theorem mixL_end (k : Nat) (l : List Int) : mixL k l.length l = shiftL k l := by
  unfold mixL
  rw [List.drop_length, List.append_nil, ← shiftL_len k l, List.take_length]
set_option maxRecDepth 100000 in
theorem mixL_step {k i : Nat} {l : List Int} (h : i < l.length) : (mixL k i l).set i (if k ≤ i then l.getD (i - k) 0 else 0) = mixL k (i + 1) l := by
  have h1 := shiftL_at (k := k) h
  unfold mixL
  have h2 : ((shiftL k l).take i).length = i := by rw [List.length_take, shiftL_len]; omega
  rw [List.set_append_right _ _ (by omega), h2, Nat.sub_self, List.drop_eq_getElem_cons h, List.set_cons_zero]
  obtain ⟨h3, h4⟩ := List.getElem?_eq_some_iff.1 h1
  rw [List.take_succ_eq_append_getElem h3, h4, List.append_assoc]; rfl
set_option maxRecDepth 100000 in
theorem mixL_low {k i : Nat} {l : List Int} (h : i < l.length) (hk : ¬ k ≤ i) : (mixL k i l).set i 0 = mixL k (i + 1) l := by
  rw [← mixL_step (k := k) h, if_neg hk]
set_option maxRecDepth 100000 in
theorem mixL_high {k i : Nat} {l : List Int} (h : i < l.length) (hk : k ≤ i) : ((mixL k i l).set i 0).set i (l.getD (i - k) 0) = mixL k (i + 1) l := by
  rw [List.set_set, ← mixL_step (k := k) h, if_pos hk]
set_option maxRecDepth 100000 in
theorem nums.cell_at {K : IntKind} {lo hi : Nat} {w : World} {b off n c : Nat} {l : List Int} (h : nums K lo hi w (.slice (some ⟨b, off, none⟩) n c) l) {j : Nat} (hj : j < l.length) :
    w.cell? ⟨b, off + j, none⟩ = some (.int K (l.getD j 0)) ∧ w.frozen? ⟨b, off + j, none⟩ = false := by
  obtain ⟨b', off', e, h1, h2, h3, h4, h5⟩ := h.own_at hj
  simp only [Option.some.injEq, Addr.mk.injEq, and_true] at e
  obtain ⟨rfl, rfl⟩ := e
  exact ⟨h3, h4⟩
set_option maxRecDepth 100000 in
theorem rd.cell_at {hi : Nat} {w : World} {b off n c : Nat} {l : List Int} (h : rd .i64 hi w (.slice (some ⟨b, off, none⟩) n c) l) {j : Nat} (hj : j < l.length) :
    b < hi ∧ w.cell? ⟨b, off + j, none⟩ = some (.int .i64 (l.getD j 0)) := by
  obtain ⟨b', off', e, h1, h2⟩ := ring_at h (List.getElem?_eq_getElem hj)
  simp only [Option.some.injEq, Addr.mk.injEq, and_true] at e
  obtain ⟨rfl, rfl⟩ := e
  rw [List.getD_eq_getElem?_getD, List.getElem?_eq_getElem hj]
  exact ⟨h1, h2⟩
set_option maxRecDepth 100000 in
theorem bk.turned {w w' : World} {lo hi g : Nat} {t : TypeId} {cs : List Value} (h : bk w g t cs) (ht : Turned lo hi w w') (hg : g < lo ∨ hi ≤ g) : bk w' g t cs := (ht.block g h.lt (by omega)).trans h
set_option maxRecDepth 100000 in
theorem nums.len {K : IntKind} {lo hi : Nat} {w : World} {A : Option Addr} {n c : Nat} {l : List Int} (h : nums K lo hi w (.slice A n c) l) : n = l.length := by
  obtain ⟨A', c', hv, -⟩ := h
  simp only [Value.slice.injEq] at hv
  exact hv.2.1
set_option maxRecDepth 100000 in
/-- the quotient of two numbers that are no less than nought -/
theorem quo_ok {n s : Int} (h0 : 0 ≤ n) (h1 : n ≤ 1000000000) (h2 : 1 ≤ s) : wrap64 (n.tdiv s) = n / s ∧ 0 ≤ n / s ∧ n / s ≤ 1000000000 := by
  have e : n.tdiv s = n / s := Int.tdiv_eq_ediv_of_nonneg h0
  have l0 : 0 ≤ n / s := Int.ediv_nonneg h0 (by omega)
  have l1 : n / s ≤ n := Int.ediv_le_self s h0
  rw [e]
  refine ⟨?_, l0, by omega⟩
  unfold wrap64; omega

set_option maxRecDepth 100000 in
set_option maxHeartbeats 6400000 in
theorem specRingRoll_any (hi : Nat) (vc vs : Value) (r : RingD) (now : Int) (w : World) (h1 : rd .i64 hi w vc r.2.2.1) (h2 : rd .i64 hi w vs r.2.2.2) (hh : hi ≤ w.heap.size) (hc : r.2.2.1.length ≤ 1048576) (hs : r.2.2.2.length ≤ 1048576) :
    Calls Tryz.prog 62 #[.agg #[.int .i64 r.1, .int .i64 r.2.1, vc, vs], .int .i64 now] w (ringOne (ringRoll r now) w) := by
  obtain ⟨A1, c1, rfl, -⟩ := h1.form
  obtain ⟨A2, c2, rfl, -⟩ := h2.form
  have HCP := Lib.hid (fun W (hW : Below w.heap.size w W) => specCopy_any hi _ _ r W (h1.below hW hh) (h2.below hW hh) (Nat.le_trans hh hW.size) hc hs)
  have HOK := Lib.hid (fun W (hW : Below w.heap.size w W) => specRingOk_any hi _ _ r W (h1.below hW hh) (h2.below hW hh) (Nat.le_trans hh hW.size) hc hs)
  have HTM := Lib.hid (fun W => specTime_any now W)
  have HC := Lib.hid h1
  have HS := Lib.hid h2
  clear h1 h2
  have HLEN := Lib.hid (fun h => ringOk_len (r := r) h)
  have HRL : Hid (ringRoll r now = if (ringOk r && (timeB now && decide (r.2.1 < now / r.1))) = true then (r.1, now / r.1, shiftL (now / r.1 - r.2.1).toNat r.2.2.1, shiftL (now / r.1 - r.2.1).toNat r.2.2.2) else r) := Lib.hid rfl
  have HTB : Hid (timeB now = true → 0 ≤ now ∧ now ≤ 1000000000) := Lib.hid fun h => by simpa [timeB, inB] using h
  generalize ringOk r = ok at HOK HLEN HRL
  generalize timeB now = tm at HTM HRL HTB
  obtain ⟨sp, hd, cs, ss⟩ := r
  simp only at HC HS hc hs HCP HOK HLEN HRL ⊢
  go_enter Tryz.func62, Tryz.ntmps62
  go_wp2_with fail
  obtain ⟨W, hW⟩ : ∃ W, W = (w.alloc (.cells #[.int .i64 sp, .int .i64 hd, .slice A1 cs.length c1, .slice A2 ss.length c2] 47)).alloc (.cells #[.int .i64 0, .int .i64 0, .slice none 0 0, .slice none 0 0] 47) := ⟨_, rfl⟩
  have b0 : bk W w.heap.size 47 [.int .i64 sp, .int .i64 hd, .slice A1 cs.length c1, .slice A2 ss.length c2] := by rw [hW]; exact (bk.new w _ _).alloc _
  have b1 : bk W (w.heap.size + 1) 47 [.int .i64 0, .int .i64 0, .slice none 0 0, .slice none 0 0] := by rw [hW]; simpa using bk.new (w.alloc _) _ _
  have HB0 : Hid (Below w.heap.size w W) := Lib.hid (by rw [hW]; exact ((Below.refl _ _).alloc (Nat.le_refl _) _).alloc (by simp) _)
  have z0 : w.heap.size + 2 ≤ W.heap.size := by rw [hW]; simp
  rw [← hW]
  clear hW
  refine (HCP.out W HB0.out).mono ?_
  rintro e w1 ⟨vc', vs', rfl, hm1, hb1⟩
  obtain ⟨uc, us, hv, hnc, hns, hap⟩ := ring_mine hm1
  simp only [List.cons.injEq, and_true, true_and] at hv
  obtain ⟨rfl, rfl⟩ := hv
  obtain ⟨AU, cU, rfl, -⟩ := hnc.form
  obtain ⟨AV, cV, rfl, -⟩ := hns.form
  have z1 := hb1.size
  replace b0 := b0.below hb1 (by omega)
  replace b1 := b1.below hb1 (by omega)
  have HB1 : Hid (Below w.heap.size w w1) := Lib.hid (HB0.out.trans (hb1.mono (by omega)))
  have HU1 := Lib.hid hnc
  have HV1 := Lib.hid hns
  have HAP := Lib.hid hap
  clear hm1 hb1 hnc hns hap HB0
  go_upto_region 2 with fail
  obtain ⟨W3, hW3⟩ : ∃ W3, W3 = w1.alloc (.cells #[.int .i64 sp, .int .i64 hd, .slice AU cs.length cU, .slice AV ss.length cV] 47) := ⟨_, rfl⟩
  replace b0 := b0.alloc (.cells #[.int .i64 sp, .int .i64 hd, .slice AU cs.length cU, .slice AV ss.length cV] 47)
  replace b1 := b1.alloc (.cells #[.int .i64 sp, .int .i64 hd, .slice AU cs.length cU, .slice AV ss.length cV] 47)
  have b2 := bk.new w1 47 [.int .i64 sp, .int .i64 hd, .slice AU cs.length cU, .slice AV ss.length cV]
  have hb3 := (Below.refl w1.heap.size w1).alloc (Nat.le_refl _) (.cells #[.int .i64 sp, .int .i64 hd, .slice AU cs.length cU, .slice AV ss.length cV] 47)
  rw [show ([Value.int .i64 sp, .int .i64 hd, .slice AU cs.length cU, .slice AV ss.length cV] : List Value).toArray = #[.int .i64 sp, .int .i64 hd, .slice AU cs.length cU, .slice AV ss.length cV] from rfl] at b2
  rw [← hW3] at b0 b1 b2 hb3 ⊢
  clear hW3
  have z3 := b2.lt
  have HB3 : Hid (Below w.heap.size w W3) := Lib.hid (HB1.out.trans (hb3.mono (by omega)))
  have HU3 := Lib.hid (HU1.out.below hb3 (Nat.le_refl _))
  have HV3 := Lib.hid (HV1.out.below hb3 (Nat.le_refl _))
  clear hb3 HU1 HV1 HB1
  obtain ⟨⟨p0, p1, p2, p3⟩, -⟩ := b0.cells
  have B0 := Lib.hid b0
  have B1 := Lib.hid b1
  have B2 := Lib.hid b2
  clear b0 b1 b2
  go_cut [26] (fun cv wx => cv = .bool (!(ok && (tm && decide (hd < now / sp)))) ∧ Below W3.heap.size W3 wx)
  case first =>
    have HX : Hid (Ext W3 W3.drew) := Lib.hid (Ext.refl W3).drew
    have HBX : Hid (∀ W, Ext W3 W → Below w.heap.size w W) := Lib.hid fun W hW => HB3.out.trans (hW.below.mono (by omega))
    have P0 := Lib.hid p0
    have P1 := Lib.hid p1
    have P2 := Lib.hid p2
    have P3 := Lib.hid p3
    clear p0 p1 p2 p3
    cases ok
    · refine quiet_region (C := Ext W3) (by kernel_rfl) (by kernel_rfl) HX.out ?_
      repeat (first
        | go_big_quiet_skip
        | (go_big_quiet_want; go_big_quiet_op; go_big_quiet_on)
        | (go_big_quiet_want; go_big_quiet_op; apply Exists.intro; refine ⟨fun _ _ => rfl, ?_⟩; go_big_quiet_on)
        | (go_big_quiet_want
           apply Exists.intro
           refine ⟨fun W hW => ?_, ?_⟩
           (have q0 := hW.cell P0.out (by omega)
            have q1 := hW.cell P1.out (by omega)
            have q2 := hW.cell P2.out (by omega)
            have q3 := hW.cell P3.out (by omega)
            unfold Oper.quietAt
            go_simp
            rfl)
           simp only [Act.put, List.setIfInBounds_toArray, List.set_cons_zero, List.set_cons_succ]
           go_big_quiet_on)
        | (go_big_quiet_want
           apply Exists.intro
           refine ⟨fun W hW => ?_, ?_⟩
           (unfold Oper.quietAt
            go_simp
            go_at_call 54
            refine (HOK.out W (HBX.out W hW)).mono ?_
            rintro e w4 ⟨rfl, hb4⟩
            exact ⟨rfl, hW.step hb4⟩)
           simp only [Act.put, List.setIfInBounds_toArray, List.set_cons_zero, List.set_cons_succ]
           go_big_quiet_on)
        | (go_big_quiet_want
           apply Exists.intro
           refine ⟨fun W hW => ?_, ?_⟩
           (unfold Oper.quietAt
            go_simp
            go_at_call 61
            refine (HTM.out W).mono ?_
            rintro e w4 ⟨rfl, rfl⟩
            exact ⟨rfl, hW⟩)
           simp only [Act.put, List.setIfInBounds_toArray, List.set_cons_zero, List.set_cons_succ]
           go_big_quiet_on))
      refine wpQuiet_nil ?_
      intro W4 hW4
      go_wp2
      go_meet
      exact ⟨rfl, hW4⟩
    obtain ⟨o1, o2, -⟩ := HLEN.out rfl
    have n1 : (sp == 0) = false := by simp; omega
    have n2 : ¬ sp = 0 := by omega
    cases tm
    · refine quiet_region (C := Ext W3) (by kernel_rfl) (by kernel_rfl) HX.out ?_
      repeat (first
        | go_big_quiet_skip
        | (go_big_quiet_want; go_big_quiet_op; go_big_quiet_on)
        | (go_big_quiet_want; go_big_quiet_op; apply Exists.intro; refine ⟨fun _ _ => rfl, ?_⟩; go_big_quiet_on)
        | (go_big_quiet_want
           apply Exists.intro
           refine ⟨fun W hW => ?_, ?_⟩
           (have q0 := hW.cell P0.out (by omega)
            have q1 := hW.cell P1.out (by omega)
            have q2 := hW.cell P2.out (by omega)
            have q3 := hW.cell P3.out (by omega)
            unfold Oper.quietAt
            go_simp
            rfl)
           simp only [Act.put, List.setIfInBounds_toArray, List.set_cons_zero, List.set_cons_succ]
           go_big_quiet_on)
        | (go_big_quiet_want
           apply Exists.intro
           refine ⟨fun W hW => ?_, ?_⟩
           (unfold Oper.quietAt
            go_simp
            go_at_call 54
            refine (HOK.out W (HBX.out W hW)).mono ?_
            rintro e w4 ⟨rfl, hb4⟩
            exact ⟨rfl, hW.step hb4⟩)
           simp only [Act.put, List.setIfInBounds_toArray, List.set_cons_zero, List.set_cons_succ]
           go_big_quiet_on)
        | (go_big_quiet_want
           apply Exists.intro
           refine ⟨fun W hW => ?_, ?_⟩
           (unfold Oper.quietAt
            go_simp
            go_at_call 61
            refine (HTM.out W).mono ?_
            rintro e w4 ⟨rfl, rfl⟩
            exact ⟨rfl, hW⟩)
           simp only [Act.put, List.setIfInBounds_toArray, List.set_cons_zero, List.set_cons_succ]
           go_big_quiet_on))
      refine wpQuiet_nil ?_
      intro W4 hW4
      go_wp2
      go_meet
      exact ⟨rfl, hW4⟩
    obtain ⟨n3, n4⟩ := HTB.out rfl
    refine quiet_region (C := Ext W3) (by kernel_rfl) (by kernel_rfl) HX.out ?_
    repeat (first
      | go_big_quiet_skip
      | (go_big_quiet_want; go_big_quiet_op; go_big_quiet_on)
      | (go_big_quiet_want; go_big_quiet_op; apply Exists.intro; refine ⟨fun _ _ => rfl, ?_⟩; go_big_quiet_on)
      | (go_big_quiet_want
         apply Exists.intro
         refine ⟨fun W hW => ?_, ?_⟩
         (have q0 := hW.cell P0.out (by omega)
          have q1 := hW.cell P1.out (by omega)
          have q2 := hW.cell P2.out (by omega)
          have q3 := hW.cell P3.out (by omega)
          unfold Oper.quietAt
          go_simp
          rfl)
         simp only [Act.put, List.setIfInBounds_toArray, List.set_cons_zero, List.set_cons_succ]
         go_big_quiet_on)
      | (go_big_quiet_want
         apply Exists.intro
         refine ⟨fun W hW => ?_, ?_⟩
         (unfold Oper.quietAt
          go_simp
          go_at_call 54
          refine (HOK.out W (HBX.out W hW)).mono ?_
          rintro e w4 ⟨rfl, hb4⟩
          exact ⟨rfl, hW.step hb4⟩)
         simp only [Act.put, List.setIfInBounds_toArray, List.set_cons_zero, List.set_cons_succ]
         go_big_quiet_on)
      | (go_big_quiet_want
         apply Exists.intro
         refine ⟨fun W hW => ?_, ?_⟩
         (unfold Oper.quietAt
          go_simp
          go_at_call 61
          refine (HTM.out W).mono ?_
          rintro e w4 ⟨rfl, rfl⟩
          exact ⟨rfl, hW⟩)
         simp only [Act.put, List.setIfInBounds_toArray, List.set_cons_zero, List.set_cons_succ]
         go_big_quiet_on))
    refine wpQuiet_nil ?_
    intro W4 hW4
    go_wp2
    go_meet
    exact ⟨congrArg Value.bool (by rw [Bool.true_and, Bool.true_and]; by_cases h : hd < now / sp <;> simp [h] <;> omega), hW4⟩
  case rest =>
    obtain ⟨rfl, hbx⟩ := hcut
    have b0 := B0.out.below hbx (by omega)
    have b1 := B1.out.below hbx (by omega)
    have b2 := B2.out.below hbx (by omega)
    have zx := hbx.size
    have HBX : Hid (Below w.heap.size w wc) := Lib.hid (HB3.out.trans (hbx.mono (by omega)))
    have HU := Lib.hid (HU3.out.below hbx (by omega))
    have HV := Lib.hid (HV3.out.below hbx (by omega))
    clear hbx HB3 HU3 HV3 B0 B1 B2 p0 p1 p2 p3 HCP HOK HTM
    cases hg : (ok && (tm && decide (hd < now / sp)))
    · have HRF : Hid (ringRoll (sp, hd, cs, ss) now = (sp, hd, cs, ss)) := Lib.hid (by rw [HRL.out, hg]; rfl)
      obtain ⟨⟨p0, p1, p2, p3⟩, q0, q1, q2, q3⟩ := b2.cells
      obtain ⟨⟨r0, r1, r2, r3⟩, f0, f1, f2, f3⟩ := b1.cells
      clear b0 b1 b2 hg HRL HLEN HTB
      go_wp2
      refine bodyPost_ret (v := .agg #[.int .i64 sp, .int .i64 hd, .slice AU cs.length cU, .slice AV ss.length cV]) (by simp [results, Tryz.results62, go_sem, r0, r1, r2, r3]) rfl ?_
      rw [HRF.out]
      have ht := ((((Turned.refl w.heap.size (w.heap.size + 2) wc).set (b := w.heap.size + 1) 0 (.int .i64 sp) (by omega) (by omega)).set (b := w.heap.size + 1) 1 (.int .i64 hd) (by omega) (by omega)).set (b := w.heap.size + 1) 2 (.slice AU cs.length cU) (by omega) (by omega)).set (b := w.heap.size + 1) 3 (.slice AV ss.length cV) (by omega) (by omega)
      have hsz := ht.size
      exact ⟨_, _, rfl, ring_mine_of ((HU.out.turned ht (.inr (by omega)) (by omega)).mono (by omega) (by omega)) ((HV.out.turned ht (.inr (by omega)) (by omega)).mono (by omega) (by omega)) HAP.out, HBX.out.trans (ht.below (Nat.le_refl _) (by omega))⟩
    · simp only [Bool.and_eq_true, decide_eq_true_eq] at hg
      obtain ⟨rfl, rfl, hg⟩ := hg
      obtain ⟨o1, o2, o3, o4, o5, o6, o7⟩ := HLEN.out rfl
      obtain ⟨n3, n4⟩ := HTB.out rfl
      obtain ⟨-, n5, n6⟩ := quo_ok n3 n4 o1
      have n1 : (sp == 0) = false := by simp; omega
      have n2 : ¬ sp = 0 := by omega
      have HRT : Hid (ringRoll (sp, hd, cs, ss) now = (sp, now / sp, shiftL (now / sp - hd).toNat cs, shiftL (now / sp - hd).toNat ss)) := Lib.hid (by rw [HRL.out, Bool.true_and, Bool.true_and, if_pos (decide_eq_true hg)])
      obtain ⟨k, hk⟩ := Int.eq_ofNat_of_zero_le (show 0 ≤ now / sp - hd by omega)
      have k0 : (k : Int) ≤ 1000000000 := by omega
      have HO5 := Lib.hid o5
      have HKT : Hid ((now / sp - hd).toNat = k) := Lib.hid (by omega)
      clear o5 HRL HLEN HTB
      have hUl := HU.out.own_at (j := 0) (by omega)
      obtain ⟨bu, ou, rfl, u1, u2, -, -, u3⟩ := hUl
      have hVl := HV.out.own_at (j := 0) (by rw [HO5.out]; omega)
      obtain ⟨bv, ov, rfl, v1, v2, -, -, v3⟩ := hVl
      have HUV : Hid (bu ≠ bv) := Lib.hid fun e => HAP.out bu u3 (by rw [e]; exact v3)
      have HBU := Lib.hid u3
      have HBV := Lib.hid v3
      clear u3 v3
      obtain ⟨a1, e1, rfl, -, -⟩ := ring_at HC.out (List.getElem?_eq_getElem (show 0 < cs.length by omega))
      obtain ⟨a2, e2, rfl, -, -⟩ := ring_at HS.out (List.getElem?_eq_getElem (show 0 < ss.length by rw [HO5.out]; omega))
      obtain ⟨⟨p0, p1, p2, p3⟩, -⟩ := b0.cells
      have B0 := Lib.hid b0
      have B1 := Lib.hid b1
      have B2 := Lib.hid b2
      clear b0 b1 b2
      go_upto_region 4 with fail
      go_quiet (fail)
      go_wp2
      obtain ⟨W4, hW4⟩ : ∃ W4, W4 = wc.drewN nq := ⟨_, rfl⟩
      have B0 := Lib.hid (B0.out.drewN nq)
      have B1 := Lib.hid (B1.out.drewN nq)
      have B2 := Lib.hid (B2.out.drewN nq)
      have HU := Lib.hid (HU.out.below (below_drew' (Below.refl w1.heap.size wc) nq) (Nat.le_refl _))
      have HV := Lib.hid (HV.out.below (below_drew' (Below.refl w1.heap.size wc) nq) (Nat.le_refl _))
      have HBX := Lib.hid (below_drew' HBX.out nq)
      have zx4 : W3.heap.size ≤ (wc.drewN nq).heap.size := zx
      rw [← hW4] at B0 B1 B2 HU HV HBX zx4 ⊢
      clear hW4 p0 p1 p2 p3 zx
      go_loopw [38] (fun iv wr => ∃ i : Nat, i ≤ cs.length ∧ iv = .int .i64 i ∧ nums .i64 W.heap.size w1.heap.size wr (.slice (some ⟨bu, ou, none⟩) cs.length cU) (mixL k i cs) ∧ nums .i64 W.heap.size w1.heap.size wr (.slice (some ⟨bv, ov, none⟩) ss.length cV) (mixL k i ss) ∧ Turned W.heap.size w1.heap.size W4 wr) (fun iv _ => cs.length - (intOf iv).toNat)
      case atStart => exact ⟨0, Nat.zero_le _, rfl, by rw [mixL_zero]; exact HU.out, by rw [mixL_zero]; exact HV.out, Turned.refl _ _ _⟩
      case round =>
        obtain ⟨i, hi', rfl, hnu, hnv, htr⟩ := hrel
        have zr := htr.size
        have b0 := B0.out.turned htr (.inl (by omega))
        have b1 := B1.out.turned htr (.inl (by omega))
        have b2 := B2.out.turned htr (.inr (by omega))
        have HNU := Lib.hid hnu
        have HNV := Lib.hid hnv
        have HT := Lib.hid htr
        clear hnu hnv htr
        by_cases hin : i < cs.length
        · have g1 : (i : Int) < (cs.length : Int) := by omega
          have g2 : 0 ≤ (i : Int) := by omega
          have HIS : Hid (i < ss.length) := Lib.hid (by rw [HO5.out]; exact hin)
          have HIV : Hid ((i : Int) < (ss.length : Int)) := Lib.hid (by rw [HO5.out]; exact g1)
          have y0 : bu ≠ w.heap.size := by omega
          have y2 : bu ≠ w1.heap.size := by omega
          have x0 : bv ≠ w.heap.size := by omega
          have x2 : bv ≠ w1.heap.size := by omega
          obtain ⟨cu, fu⟩ := HNU.out.cell_at (j := i) (by rw [mixL_len hi']; exact hin)
          obtain ⟨⟨p0, p1, p2, p3⟩, -⟩ := b2.cells
          have BB0 := Lib.hid b0
          have BB1 := Lib.hid b1
          have BB2 := Lib.hid b2
          clear b0 b1 b2
          go_upto_region 9 with fail
          obtain ⟨W5, hW5⟩ : ∃ W5, W5 = wr.setCell ⟨bu, ou + i, none⟩ (.int .i64 0) := ⟨_, rfl⟩
          have BB0 := Lib.hid (BB0.out.far (p := ⟨bu, ou + i, none⟩) (Ne.symm y0) (.int .i64 0))
          have BB2 := Lib.hid (BB2.out.far (p := ⟨bu, ou + i, none⟩) (Ne.symm y2) (.int .i64 0))
          have HNU := Lib.hid (HNU.out.set (j := i) (by rw [mixL_len hi']; exact hin) 0)
          have HNV := Lib.hid (HNV.out.far (g := bu) (o := ou + i) (.int .i64 0) (by rw [HBV.out]; exact fun e => HUV.out (Option.some.inj e).symm))
          have HT := Lib.hid (HT.out.set (b := bu) (ou + i) (.int .i64 0) (by omega) (by omega))
          rw [← hW5] at BB0 BB2 HNU HNV HT ⊢
          clear hW5 p0 p1 p2 p3 cu fu
          obtain ⟨⟨p0, p1, p2, p3⟩, -⟩ := BB2.out.cells
          obtain ⟨cv, fv⟩ := HNV.out.cell_at (j := i) (by rw [mixL_len (Nat.le_of_lt HIS.out)]; exact HIS.out)
          have g3 := HIV.out
          go_upto_region 10 with fail
          obtain ⟨W6, hW6⟩ : ∃ W6, W6 = W5.setCell ⟨bv, ov + i, none⟩ (.int .i64 0) := ⟨_, rfl⟩
          have BB0 := Lib.hid (BB0.out.far (p := ⟨bv, ov + i, none⟩) (Ne.symm x0) (.int .i64 0))
          have BB2 := Lib.hid (BB2.out.far (p := ⟨bv, ov + i, none⟩) (Ne.symm x2) (.int .i64 0))
          have HNV := Lib.hid (HNV.out.set (j := i) (by rw [mixL_len (Nat.le_of_lt HIS.out)]; exact HIS.out) 0)
          have HNU := Lib.hid (HNU.out.far (g := bv) (o := ov + i) (.int .i64 0) (by rw [HBU.out]; exact fun e => HUV.out (Option.some.inj e)))
          have HT := Lib.hid (HT.out.set (b := bv) (ov + i) (.int .i64 0) (by omega) (by omega))
          rw [← hW6] at BB0 BB2 HNU HNV HT ⊢
          clear hW6 p0 p1 p2 p3 cv fv
          by_cases hki : k ≤ i
          · obtain ⟨d, hdi⟩ : ∃ d : Nat, d = i - k := ⟨_, rfl⟩
            have gd : (d : Int) < (cs.length : Int) := by omega
            have ge : 0 ≤ (d : Int) := by omega
            have gw : IntKind.i64.wrap ((i : Int) - (k : Int)) = (d : Int) := by rw [IntKind.wrap_i64]; omega
            have gk : (k : Int) ≤ (i : Int) := by omega
            have HDS : Hid (d < ss.length) := Lib.hid (by rw [HO5.out]; omega)
            obtain ⟨-, cc⟩ := ((HC.out.below HBX.out hh).below (HT.out.below (B := hi) (by omega) (by omega)) (Nat.le_refl _)).cell_at (j := d) (by omega)
            obtain ⟨⟨p0, p1, p2, p3⟩, -⟩ := BB2.out.cells
            obtain ⟨⟨q0, q1, q2, q3⟩, -⟩ := BB0.out.cells
            obtain ⟨cu, fu⟩ := HNU.out.cell_at (j := i) (by rw [List.length_set, mixL_len hi']; exact hin)
            have HDI := Lib.hid hdi
            clear hdi
            go_upto_region 11 with fail
            go_region
            obtain ⟨W7, hW7⟩ : ∃ W7, W7 = (W6.setCell ⟨bu, ou + i, none⟩ (.int .i64 (cs[d]?.getD 0))).drew := ⟨_, rfl⟩
            have BB0 := Lib.hid ((BB0.out.far (p := ⟨bu, ou + i, none⟩) (Ne.symm y0) (.int .i64 (cs[d]?.getD 0))).drew)
            have BB2 := Lib.hid ((BB2.out.far (p := ⟨bu, ou + i, none⟩) (Ne.symm y2) (.int .i64 (cs[d]?.getD 0))).drew)
            have HNU := Lib.hid ((HNU.out.set (j := i) (by rw [List.length_set, mixL_len hi']; exact hin) (cs[d]?.getD 0)).below (Below.refl w1.heap.size _).drew (Nat.le_refl _))
            have HNV := Lib.hid ((HNV.out.far (g := bu) (o := ou + i) (.int .i64 (cs[d]?.getD 0)) (by rw [HBV.out]; exact fun e => HUV.out (Option.some.inj e).symm)).below (Below.refl w1.heap.size _).drew (Nat.le_refl _))
            have HT := Lib.hid ((HT.out.set (b := bu) (ou + i) (.int .i64 (cs[d]?.getD 0)) (by omega) (by omega)).trans (Turned.of_below (Below.refl _ _).drew))
            rw [← hW7] at BB0 BB2 HNU HNV HT ⊢
            clear hW7 p0 p1 p2 p3 q0 q1 q2 q3 cu fu cc
            have gv := HIV.out
            have gdv : (d : Int) < (ss.length : Int) := by have := HDS.out; omega
            obtain ⟨-, cc⟩ := ((HS.out.below HBX.out hh).below (HT.out.below (B := hi) (by omega) (by omega)) (Nat.le_refl _)).cell_at (j := d) HDS.out
            obtain ⟨⟨p0, p1, p2, p3⟩, -⟩ := BB2.out.cells
            obtain ⟨⟨q0, q1, q2, q3⟩, -⟩ := BB0.out.cells
            obtain ⟨cv, fv⟩ := HNV.out.cell_at (j := i) (by rw [List.length_set, mixL_len (Nat.le_of_lt HIS.out)]; exact HIS.out)
            go_upto_region 12 with fail
            go_region
            obtain ⟨W8, hW8⟩ : ∃ W8, W8 = (W7.setCell ⟨bv, ov + i, none⟩ (.int .i64 (ss[d]?.getD 0))).drew := ⟨_, rfl⟩
            have HNV := Lib.hid ((HNV.out.set (j := i) (by rw [List.length_set, mixL_len (Nat.le_of_lt HIS.out)]; exact HIS.out) (ss[d]?.getD 0)).below (Below.refl w1.heap.size _).drew (Nat.le_refl _))
            have HNU := Lib.hid ((HNU.out.far (g := bv) (o := ov + i) (.int .i64 (ss[d]?.getD 0)) (by rw [HBU.out]; exact fun e => HUV.out (Option.some.inj e))).below (Below.refl w1.heap.size _).drew (Nat.le_refl _))
            have HT := Lib.hid ((HT.out.set (b := bv) (ov + i) (.int .i64 (ss[d]?.getD 0)) (by omega) (by omega)).trans (Turned.of_below (Below.refl _ _).drew))
            rw [← hW8] at HNU HNV HT ⊢
            clear hW8 p0 p1 p2 p3 q0 q1 q2 q3 cv fv cc
            go_wp2
            go_roundw
            case rel => exact ⟨i + 1, by omega, by go_num, by rw [← mixL_high (k := k) hin hki, ← HDI.out]; exact HNU.out, by rw [← mixL_high (k := k) HIS.out hki, ← HDI.out]; exact HNV.out, HT.out⟩
            case measure => simp [intOf] <;> omega
          · have gk : ¬ (k : Int) ≤ (i : Int) := by omega
            go_wp2
            go_roundw
            case rel => exact ⟨i + 1, by omega, by go_num, by rw [← mixL_low (k := k) hin hki]; exact HNU.out, by rw [← mixL_low (k := k) HIS.out hki]; exact HNV.out, HT.out⟩
            case measure => simp [intOf] <;> omega
        · obtain rfl : i = cs.length := by omega
          have HEU : Hid (mixL k cs.length cs = shiftL k cs) := Lib.hid (mixL_end _ _)
          have HEV : Hid (mixL k cs.length ss = shiftL k ss) := Lib.hid (by rw [← HO5.out]; exact mixL_end _ _)
          rw [HEU.out] at HNU
          rw [HEV.out] at HNV
          obtain ⟨⟨p0, p1, p2, p3⟩, d0, d1, d2, d3⟩ := b2.cells
          obtain ⟨⟨q0, q1, q2, q3⟩, -⟩ := b0.cells
          obtain ⟨⟨r0, r1, r2, r3⟩, f0, f1, f2, f3⟩ := b1.cells
          clear b0 b1 b2
          go_wp2
          refine bodyPost_ret (v := .agg #[.int .i64 sp, .int .i64 (now / sp), .slice (some ⟨bu, ou, none⟩) cs.length cU, .slice (some ⟨bv, ov, none⟩) ss.length cV]) (by simp [results, Tryz.results62, go_sem, r0, r1, r2, r3]) rfl ?_
          rw [HRT.out, HKT.out]
          have ht1 := (Turned.refl w1.heap.size (w1.heap.size + 1) wr).set (b := w1.heap.size) 1 (.int .i64 (now / sp)) (by omega) (by omega)
          have z9 := ht1.size
          have HNU := Lib.hid (HNU.out.turned ht1 (.inl (by omega)) (by omega))
          have HNV := Lib.hid (HNV.out.turned ht1 (.inl (by omega)) (by omega))
          have HB9 := Lib.hid (HBX.out.trans ((HT.out.below (B := w.heap.size) (by omega) (by omega)).trans (ht1.below (B := w.heap.size) (by omega) (by omega))))
          generalize (wr.setCell { block := w1.heap.size, off := 1 } (Value.int IntKind.i64 (now / sp))) = W9 at *
          have ht := ((((Turned.refl w.heap.size (w.heap.size + 2) W9).set (b := w.heap.size + 1) 0 (.int .i64 sp) (by omega) (by omega)).set (b := w.heap.size + 1) 1 (.int .i64 (now / sp)) (by omega) (by omega)).set (b := w.heap.size + 1) 2 (.slice (some ⟨bu, ou, none⟩) cs.length cU) (by omega) (by omega)).set (b := w.heap.size + 1) 3 (.slice (some ⟨bv, ov, none⟩) ss.length cV) (by omega) (by omega)
          have hsz := ht.size
          exact ⟨_, _, rfl, ring_mine_of ((HNU.out.turned ht (.inr (by omega)) (by omega)).mono (by omega) (by omega)) ((HNV.out.turned ht (.inr (by omega)) (by omega)).mono (by omega) (by omega)) HAP.out, HB9.out.trans (ht.below (Nat.le_refl _) (by omega))⟩
end Go.Proofs.YthnimmagaocipaaGreatDoor
set_option linter.unusedVariables false
namespace Go.Proofs.YthnimmagaocipaaGreatDoor
open Go.ChangeShapes Go.WideShapes Go.ChangeAt Go.RowKit

abbrev setH (a : AcctD) (l : List HoldD) : AcctD := (aId a, aLim a, aPos a, aMost a, aSum a, l, aR a, aS a)
abbrev setR (a : AcctD) (r : RingD) : AcctD := (aId a, aLim a, aPos a, aMost a, aSum a, aH a, r, aS a)
set_option maxRecDepth 100000 in
theorem swapH {p0 p1 p2 : Nat} {w : World} {a : AcctD} {vh vc vs vl vh2 : Value} {l : List HoldD} (h : AcctR.mine p0 p1 w (aCells a vh vc vs vl) a) (h2 : HoldsR.mine p1 p2 w [vh2] l) (h01 : p0 ≤ p1) (h12 : p1 ≤ p2) : AcctR.mine p0 p2 w (aCells (setH a l) vh2 vc vs vl) (setH a l) := by
  obtain ⟨uh, uc, us, ul, F, G, H, hcs, o1, o2, o3, n1, n2, n3, ap, hb⟩ := acct_mine h
  simp only [aCells, List.cons.injEq, and_true, true_and] at hcs
  obtain ⟨rfl, rfl, rfl, rfl⟩ := hcs
  obtain ⟨F2, f1, f2, f3⟩ := h2
  refine acct_mine_of (a := setH a l) f1 o2 o3 f2 n2 n3 ⟨fun b hb1 hb2 => ?_, fun b hb1 hb2 => ?_, ap.gh⟩ fun b hb' => ?_
  · have := f3 b hb1; have := hb b (.inr (.inl hb2)); omega
  · have := f3 b hb1; have := hb b (.inr (.inr hb2)); omega
  · rcases hb' with hb' | hb'
    · have := f3 b hb'; omega
    · have := hb b (.inr hb'); omega
set_option maxRecDepth 100000 in
theorem swapR {p0 p1 p2 : Nat} {w : World} {a : AcctD} {vh vc vs vl vc2 vs2 : Value} {r : RingD} (h : AcctR.mine p0 p1 w (aCells a vh vc vs vl) a) (h2 : RingR.mine p1 p2 w [.int .i64 r.1, .int .i64 r.2.1, vc2, vs2] r) (h01 : p0 ≤ p1) (h12 : p1 ≤ p2) : AcctR.mine p0 p2 w (aCells (setR a r) vh vc2 vs2 vl) (setR a r) := by
  obtain ⟨uh, uc, us, ul, F, G, H, hcs, o1, o2, o3, n1, n2, n3, ap, hb⟩ := acct_mine h
  simp only [aCells, List.cons.injEq, and_true, true_and] at hcs
  obtain ⟨rfl, rfl, rfl, rfl⟩ := hcs
  obtain ⟨G2, f1, f2, f3⟩ := h2
  refine acct_mine_of (a := setR a r) o1 f1 o3 n1 f2 n3 ⟨fun b hb1 hb2 => ?_, ap.fh, fun b hb1 hb2 => ?_⟩ fun b hb' => ?_
  · have := f3 b hb2; have := hb b (.inl hb1); omega
  · have := f3 b hb1; have := hb b (.inr (.inr hb2)); omega
  · rcases hb' with hb' | hb' | hb'
    · have := hb b (.inl hb'); omega
    · have := f3 b hb'; omega
    · have := hb b (.inr (.inr hb')); omega
def acctSwept (a : AcctD) (now : Int) : AcctD := if (acctOk a && timeB now) = true then setH a (liveL (aH a) now) else a
def acctAt (a : AcctD) (now : Int) : AcctD := if (acctOk a && timeB now) = true then setR (acctSwept a now) (ringRoll (aR a) now) else acctSwept a now
set_option maxRecDepth 100000 in
set_option maxHeartbeats 4000000 in
theorem specAcctSwept_any (hi : Nat) (vh vc vs vl : Value) (a : AcctD) (now : Int) (w : World) (hz : acctSmall 1048576 a) (hbig : acctBig a) (h : AcctR.rd hi w (aCells a vh vc vs vl) a) (hh : hi ≤ w.heap.size) :
    Calls Tryz.prog 60 #[.agg #[.string (aId a), .int .i64 (aLim a), .int .i64 (aPos a), .int .i64 (aMost a), .int .i64 (aSum a), vh, .int .i64 (aR a).1, .int .i64 (aR a).2.1, vc, vs, vl], .int .i64 now] w (acctOne (acctSwept a now) w) := by
  have HOK := Lib.hid (fun W (hW : Below w.heap.size w W) => specAcctOk_any hi vh vc vs vl a W hz hbig (Rep.below (R := AcctR) h hW hh) (Nat.le_trans hh hW.size))
  have HCP := Lib.hid (fun W (hW : Below w.heap.size w W) => specAcctCopy_any hi vh vc vs vl a W hz (Rep.below (R := AcctR) h hW hh) (Nat.le_trans hh hW.size))
  obtain ⟨vh', vc', vs', vl', hcs, r1, r2, r3, r4⟩ := acct_rd h
  simp only [aCells, List.cons.injEq, and_true, true_and] at hcs
  obtain ⟨rfl, rfl, rfl, rfl⟩ := hcs
  have HLV := Lib.hid (fun W (hW : Below w.heap.size w W) => specLiveOnes_any hi _ (aH a) now W hz.h (Rep.below (R := HoldsR) r1 hW hh) (Nat.le_trans hh hW.size))
  have HTM := Lib.hid (fun W => specTime_any now W)
  clear h hz hbig
  have HSW : Hid (acctSwept a now = if (acctOk a && timeB now) = true then setH a (liveL (aH a) now) else a) := Lib.hid rfl
  generalize acctOk a = ok at HOK HSW
  generalize timeB now = tm at HTM HSW
  generalize acctSwept a now = am at HSW ⊢
  obtain ⟨ls, hls⟩ : ∃ ls, ls = liveL (aH a) now := ⟨_, rfl⟩
  rw [← hls] at HLV HSW
  clear hls
  obtain ⟨id, lim, pos, most, sum, hs, ⟨sp, hd, cs, ss⟩, sl⟩ := a
  simp only [aId, aLim, aPos, aMost, aSum, aH, aS] at r1 r2 r3 r4 HOK HCP HLV HSW ⊢
  obtain ⟨AH, cH, rfl, -⟩ := Rep.slice_form r1
  obtain ⟨AC, cC, rfl, -⟩ := r2.form
  obtain ⟨AS, cS, rfl, -⟩ := r3.form
  obtain ⟨AL, cL, rfl, -⟩ := Rep.slice_form r4
  clear r1 r2 r3 r4
  go_enter Tryz.func60, Tryz.ntmps60
  go_upto_region 1 with fail
  obtain ⟨W, hW⟩ : ∃ W, W = (w.alloc (.cells #[.string id, .int .i64 lim, .int .i64 pos, .int .i64 most, .int .i64 sum, .slice AH hs.length cH, .int .i64 sp, .int .i64 hd, .slice AC cs.length cC, .slice AS ss.length cS, .slice AL sl.length cL] 50)).alloc (.cells #[.string ⟨#[]⟩, .int .i64 0, .int .i64 0, .int .i64 0, .int .i64 0, .slice none 0 0, .int .i64 0, .int .i64 0, .slice none 0 0, .slice none 0 0, .slice none 0 0] 50) := ⟨_, rfl⟩
  have b0 : bk W w.heap.size 50 [.string id, .int .i64 lim, .int .i64 pos, .int .i64 most, .int .i64 sum, .slice AH hs.length cH, .int .i64 sp, .int .i64 hd, .slice AC cs.length cC, .slice AS ss.length cS, .slice AL sl.length cL] := by rw [hW]; exact (bk.new w _ _).alloc _
  have b1 : bk W (w.heap.size + 1) 50 [.string ⟨#[]⟩, .int .i64 0, .int .i64 0, .int .i64 0, .int .i64 0, .slice none 0 0, .int .i64 0, .int .i64 0, .slice none 0 0, .slice none 0 0, .slice none 0 0] := by rw [hW]; simpa using bk.new (w.alloc _) 50 [.string ⟨#[]⟩, .int .i64 0, .int .i64 0, .int .i64 0, .int .i64 0, .slice none 0 0, .int .i64 0, .int .i64 0, .slice none 0 0, .slice none 0 0, .slice none 0 0]
  have HB0 : Hid (Below w.heap.size w W) := Lib.hid (by rw [hW]; exact ((Below.refl _ _).alloc (Nat.le_refl _) _).alloc (by simp) _)
  have y0 : w.heap.size + 2 ≤ W.heap.size := by rw [hW]; simp
  rw [← hW]
  clear hW
  obtain ⟨⟨p0, p1, p2, p3, p4, p5, p6, p7, p8, p9, p10⟩, -⟩ := b0.eleven
  have B0 := Lib.hid b0
  have B1 := Lib.hid b1
  clear b0 b1
  go_wp2_with fail
  refine (HCP.out W HB0.out).mono ?_
  rintro e w1 ⟨uh, uc, us, ul, rfl, hm1, hb1⟩
  obtain ⟨xh, xc, xs, xl, hcs, q1, q2, q3, q4⟩ := acct_rd hm1.rd
  simp only [aCells, List.cons.injEq, and_true, true_and] at hcs
  obtain ⟨rfl, rfl, rfl, rfl⟩ := hcs
  obtain ⟨A1, c1, rfl, -⟩ := Rep.slice_form q1
  obtain ⟨A3, c3, rfl, -⟩ := q2.form
  obtain ⟨A4, c4, rfl, -⟩ := q3.form
  obtain ⟨A6, c6, rfl, -⟩ := Rep.slice_form q4
  have z1 := hb1.size
  have HM1 := Lib.hid hm1
  have HB1 : Hid (Below w.heap.size w w1) := Lib.hid (HB0.out.trans (hb1.mono (by omega)))
  have C0 := Lib.hid (B0.out.below hb1 (by omega))
  have C1 := Lib.hid (B1.out.below hb1 (by omega))
  clear hm1 hb1 HB0 HCP B0 B1 q1 q2 q3 q4 p0 p1 p2 p3 p4 p5 p6 p7 p8 p9 p10
  simp only [aH, aS, aId, aLim, aPos, aMost, aSum] at HM1 ⊢
  obtain ⟨⟨p0, p1, p2, p3, p4, p5, p6, p7, p8, p9, p10⟩, -⟩ := C0.out.eleven
  go_upto_region 2 with fail
  obtain ⟨W2, hW2⟩ : ∃ W2, W2 = w1.alloc (.cells #[.string id, .int .i64 lim, .int .i64 pos, .int .i64 most, .int .i64 sum, .slice A1 hs.length c1, .int .i64 sp, .int .i64 hd, .slice A3 cs.length c3, .slice A4 ss.length c4, .slice A6 sl.length c6] 50) := ⟨_, rfl⟩
  have b2 : bk W2 w1.heap.size 50 [.string id, .int .i64 lim, .int .i64 pos, .int .i64 most, .int .i64 sum, .slice A1 hs.length c1, .int .i64 sp, .int .i64 hd, .slice A3 cs.length c3, .slice A4 ss.length c4, .slice A6 sl.length c6] := by rw [hW2]; exact bk.new w1 _ _
  have hb2 : Below w1.heap.size w1 W2 := by rw [hW2]; exact (Below.refl _ _).alloc (Nat.le_refl _) _
  rw [← hW2]
  clear hW2
  have z2 := b2.lt
  have B0 := Lib.hid (C0.out.below hb2 (by omega))
  have B1 := Lib.hid (C1.out.below hb2 (by omega))
  have B2 := Lib.hid b2
  have HM2 := Lib.hid (HM1.out.below hb2 (Nat.le_refl _))
  have HB2 : Hid (Below w.heap.size w W2) := Lib.hid (HB1.out.trans (hb2.mono (by omega)))
  clear hb2 b2 C0 C1 HM1 HB1 p0 p1 p2 p3 p4 p5 p6 p7 p8 p9 p10
  obtain ⟨⟨p0, p1, p2, p3, p4, p5, p6, p7, p8, p9, p10⟩, -⟩ := B0.out.eleven
  go_wp2_with fail
  refine (HOK.out W2 HB2.out).mono ?_
  rintro e w3 ⟨rfl, hb3⟩
  have z3 := hb3.size
  have C0 := Lib.hid (B0.out.below hb3 (by omega))
  have C1 := Lib.hid (B1.out.below hb3 (by omega))
  have C2 := Lib.hid (B2.out.below hb3 (by omega))
  have HM3 := Lib.hid (HM2.out.below hb3 (by omega))
  have HB3 : Hid (Below w.heap.size w w3) := Lib.hid (HB2.out.trans (hb3.mono (by omega)))
  clear hb3 B0 B1 B2 HM2 HB2 HOK p0 p1 p2 p3 p4 p5 p6 p7 p8 p9 p10
  cases ok
  · have HAM : Hid (am = (id, lim, pos, most, sum, hs, (sp, hd, cs, ss), sl)) := Lib.hid (by rw [HSW.out]; rfl)
    clear HSW HTM HLV
    have b1 := C1.out
    have b2 := C2.out
    clear C0 C1 C2
    obtain ⟨⟨p0, p1, p2, p3, p4, p5, p6, p7, p8, p9, p10⟩, -⟩ := b2.eleven
    obtain ⟨⟨r0, r1, r2, r3, r4, r5, r6, r7, r8, r9, r10⟩, g0, g1, g2, g3, g4, g5, g6, g7, g8, g9, g10⟩ := b1.eleven
    clear b1 b2
    go_wp2
    refine bodyPost_ret (v := .agg #[.string id, .int .i64 lim, .int .i64 pos, .int .i64 most, .int .i64 sum, .slice A1 hs.length c1, .int .i64 sp, .int .i64 hd, .slice A3 cs.length c3, .slice A4 ss.length c4, .slice A6 sl.length c6]) (by simp [results, Tryz.results60, go_sem, r0, r1, r2, r3, r4, r5, r6, r7, r8, r9, r10]) rfl ?_
    have ht := (((((((((((Turned.refl w.heap.size (w.heap.size + 2) w3).set (b := w.heap.size + 1) 0 (.string id) (by omega) (by omega)).set (b := w.heap.size + 1) 1 (.int .i64 lim) (by omega) (by omega)).set (b := w.heap.size + 1) 2 (.int .i64 pos) (by omega) (by omega)).set (b := w.heap.size + 1) 3 (.int .i64 most) (by omega) (by omega)).set (b := w.heap.size + 1) 4 (.int .i64 sum) (by omega) (by omega)).set (b := w.heap.size + 1) 5 (.slice A1 hs.length c1) (by omega) (by omega)).set (b := w.heap.size + 1) 6 (.int .i64 sp) (by omega) (by omega)).set (b := w.heap.size + 1) 7 (.int .i64 hd) (by omega) (by omega)).set (b := w.heap.size + 1) 8 (.slice A3 cs.length c3) (by omega) (by omega)).set (b := w.heap.size + 1) 9 (.slice A4 ss.length c4) (by omega) (by omega)).set (b := w.heap.size + 1) 10 (.slice A6 sl.length c6) (by omega) (by omega)
    have hsz := ht.size
    rw [HAM.out]
    exact ⟨_, _, _, _, rfl, (HM3.out.turned ht (.inr (by omega)) (by omega)).mono (by omega) (by omega), HB3.out.trans (ht.below (by omega) (by omega))⟩
  · go_wp2_with fail
    refine (HTM.out w3).mono ?_
    rintro e w4 ⟨rfl, rfl⟩
    cases tm
    · have HAM : Hid (am = (id, lim, pos, most, sum, hs, (sp, hd, cs, ss), sl)) := Lib.hid (by rw [HSW.out]; rfl)
      clear HSW HTM HLV
      have b1 := C1.out
      have b2 := C2.out
      clear C0 C1 C2
      obtain ⟨⟨p0, p1, p2, p3, p4, p5, p6, p7, p8, p9, p10⟩, -⟩ := b2.eleven
      obtain ⟨⟨r0, r1, r2, r3, r4, r5, r6, r7, r8, r9, r10⟩, g0, g1, g2, g3, g4, g5, g6, g7, g8, g9, g10⟩ := b1.eleven
      clear b1 b2
      go_wp2
      refine bodyPost_ret (v := .agg #[.string id, .int .i64 lim, .int .i64 pos, .int .i64 most, .int .i64 sum, .slice A1 hs.length c1, .int .i64 sp, .int .i64 hd, .slice A3 cs.length c3, .slice A4 ss.length c4, .slice A6 sl.length c6]) (by simp [results, Tryz.results60, go_sem, r0, r1, r2, r3, r4, r5, r6, r7, r8, r9, r10]) rfl ?_
      have ht := (((((((((((Turned.refl w.heap.size (w.heap.size + 2) w3).set (b := w.heap.size + 1) 0 (.string id) (by omega) (by omega)).set (b := w.heap.size + 1) 1 (.int .i64 lim) (by omega) (by omega)).set (b := w.heap.size + 1) 2 (.int .i64 pos) (by omega) (by omega)).set (b := w.heap.size + 1) 3 (.int .i64 most) (by omega) (by omega)).set (b := w.heap.size + 1) 4 (.int .i64 sum) (by omega) (by omega)).set (b := w.heap.size + 1) 5 (.slice A1 hs.length c1) (by omega) (by omega)).set (b := w.heap.size + 1) 6 (.int .i64 sp) (by omega) (by omega)).set (b := w.heap.size + 1) 7 (.int .i64 hd) (by omega) (by omega)).set (b := w.heap.size + 1) 8 (.slice A3 cs.length c3) (by omega) (by omega)).set (b := w.heap.size + 1) 9 (.slice A4 ss.length c4) (by omega) (by omega)).set (b := w.heap.size + 1) 10 (.slice A6 sl.length c6) (by omega) (by omega)
      have hsz := ht.size
      rw [HAM.out]
      exact ⟨_, _, _, _, rfl, (HM3.out.turned ht (.inr (by omega)) (by omega)).mono (by omega) (by omega), HB3.out.trans (ht.below (by omega) (by omega))⟩
    · have HAM : Hid (am = (id, lim, pos, most, sum, ls, (sp, hd, cs, ss), sl)) := Lib.hid (by rw [HSW.out]; rfl)
      clear HSW HTM
      obtain ⟨⟨p0, p1, p2, p3, p4, p5, p6, p7, p8, p9, p10⟩, -⟩ := C0.out.eleven
      go_wp2_with fail
      refine (HLV.out w3 HB3.out).mono ?_
      rintro e w5 ⟨u, rfl, hu, hb5⟩
      obtain ⟨AN, cN, rfl, -⟩ := Rep.slice_form hu.rd
      have z5 := hb5.size
      have HM5 := Lib.hid (HM3.out.below hb5 (by omega))
      have HU5 := Lib.hid hu
      have HB5 : Hid (Below w.heap.size w w5) := Lib.hid (HB3.out.trans (hb5.mono (by omega)))
      have D1 := Lib.hid (C1.out.below hb5 (by omega))
      have D2 := Lib.hid (C2.out.below hb5 (by omega))
      clear hu hb5 HM3 HB3 HLV C0 C1 C2 p0 p1 p2 p3 p4 p5 p6 p7 p8 p9 p10
      obtain ⟨⟨p0, p1, p2, p3, p4, p5, p6, p7, p8, p9, p10⟩, f0, f1, f2, f3, f4, f5, f6, f7, f8, f9, f10⟩ := D2.out.eleven
      have hq := D2.out.set 5 (.slice AN ls.length cN)
      have ht5 := (Turned.refl w1.heap.size (w1.heap.size + 1) w5).set (b := w1.heap.size) 5 (.slice AN ls.length cN) (by omega) (by omega)
      go_upto_region 4 with fail
      obtain ⟨W6, hW6⟩ : ∃ W6, W6 = w5.setCell ⟨w1.heap.size, 5, none⟩ (.slice AN ls.length cN) := ⟨_, rfl⟩
      rw [← hW6] at hq ht5 ⊢
      clear hW6
      have z6 := ht5.size
      have HM6 := Lib.hid (swapH (HM5.out.turned ht5 (.inl (Nat.le_refl _)) (by omega)) ((HU5.out.turned ht5 (.inr (by omega)) (Nat.le_refl _)).mono (hi' := W6.heap.size) (by omega) (by omega)) (by omega) (by omega))
      have HB6 := Lib.hid (HB5.out.trans (ht5.below (B := w.heap.size) (by omega) (by omega)))
      have b1 := D1.out.under ht5 (by omega)
      have b2 : bk W6 w1.heap.size 50 [.string id, .int .i64 lim, .int .i64 pos, .int .i64 most, .int .i64 sum, .slice AN ls.length cN, .int .i64 sp, .int .i64 hd, .slice A3 cs.length c3, .slice A4 ss.length c4, .slice A6 sl.length c6] := hq
      clear hq ht5 HM5 HU5 HB5 D1 D2 p0 p1 p2 p3 p4 p5 p6 p7 p8 p9 p10 f0 f1 f2 f3 f4 f5 f6 f7 f8 f9 f10
      simp only [setH, aId, aLim, aPos, aMost, aSum, aR, aS] at HM6
      obtain ⟨⟨p0, p1, p2, p3, p4, p5, p6, p7, p8, p9, p10⟩, -⟩ := b2.eleven
      obtain ⟨⟨r0, r1, r2, r3, r4, r5, r6, r7, r8, r9, r10⟩, g0, g1, g2, g3, g4, g5, g6, g7, g8, g9, g10⟩ := b1.eleven
      clear b1 b2
      go_wp2
      refine bodyPost_ret (v := .agg #[.string id, .int .i64 lim, .int .i64 pos, .int .i64 most, .int .i64 sum, .slice AN ls.length cN, .int .i64 sp, .int .i64 hd, .slice A3 cs.length c3, .slice A4 ss.length c4, .slice A6 sl.length c6]) (by simp [results, Tryz.results60, go_sem, r0, r1, r2, r3, r4, r5, r6, r7, r8, r9, r10]) rfl ?_
      have ht := (((((((((((Turned.refl w.heap.size (w.heap.size + 2) W6).set (b := w.heap.size + 1) 0 (.string id) (by omega) (by omega)).set (b := w.heap.size + 1) 1 (.int .i64 lim) (by omega) (by omega)).set (b := w.heap.size + 1) 2 (.int .i64 pos) (by omega) (by omega)).set (b := w.heap.size + 1) 3 (.int .i64 most) (by omega) (by omega)).set (b := w.heap.size + 1) 4 (.int .i64 sum) (by omega) (by omega)).set (b := w.heap.size + 1) 5 (.slice AN ls.length cN) (by omega) (by omega)).set (b := w.heap.size + 1) 6 (.int .i64 sp) (by omega) (by omega)).set (b := w.heap.size + 1) 7 (.int .i64 hd) (by omega) (by omega)).set (b := w.heap.size + 1) 8 (.slice A3 cs.length c3) (by omega) (by omega)).set (b := w.heap.size + 1) 9 (.slice A4 ss.length c4) (by omega) (by omega)).set (b := w.heap.size + 1) 10 (.slice A6 sl.length c6) (by omega) (by omega)
      have hsz := ht.size
      rw [HAM.out]
      exact ⟨_, _, _, _, rfl, (HM6.out.turned ht (.inr (by omega)) (by omega)).mono (by omega) (by omega), HB6.out.trans (ht.below (by omega) (by omega))⟩
end Go.Proofs.YthnimmagaocipaaGreatDoor
set_option linter.unusedVariables false
namespace Go.Proofs.YthnimmagaocipaaGreatDoor
open Go.ChangeShapes Go.WideShapes Go.ChangeAt Go.RowKit

set_option maxRecDepth 100000 in
set_option maxHeartbeats 4000000 in
theorem specAcctAt_any (hi : Nat) (vh vc vs vl : Value) (a : AcctD) (now : Int) (w : World) (hz : acctSmall 1048576 a) (hbig : acctBig a) (h : AcctR.rd hi w (aCells a vh vc vs vl) a) (hh : hi ≤ w.heap.size) :
    Calls Tryz.prog 26 #[.agg #[.string (aId a), .int .i64 (aLim a), .int .i64 (aPos a), .int .i64 (aMost a), .int .i64 (aSum a), vh, .int .i64 (aR a).1, .int .i64 (aR a).2.1, vc, vs, vl], .int .i64 now] w (acctOne (acctAt a now) w) := by
  have HOK := Lib.hid (fun W (hW : Below w.heap.size w W) => specAcctOk_any hi vh vc vs vl a W hz hbig (Rep.below (R := AcctR) h hW hh) (Nat.le_trans hh hW.size))
  have HCP := Lib.hid (fun W (hW : Below w.heap.size w W) => specAcctSwept_any hi vh vc vs vl a now W hz hbig (Rep.below (R := AcctR) h hW hh) (Nat.le_trans hh hW.size))
  obtain ⟨vh', vc', vs', vl', hcs, r1, r2, r3, r4⟩ := acct_rd h
  simp only [aCells, List.cons.injEq, and_true, true_and] at hcs
  obtain ⟨rfl, rfl, rfl, rfl⟩ := hcs
  have HRL := Lib.hid (fun W (hW : Below w.heap.size w W) => specRingRoll_any hi _ _ (aR a) now W (r2.below hW hh) (r3.below hW hh) (Nat.le_trans hh hW.size) hz.c hz.s)
  have HTM := Lib.hid (fun W => specTime_any now W)
  clear h hz hbig
  have HSW : Hid (acctAt a now = if (acctOk a && timeB now) = true then setR (acctSwept a now) (ringRoll (aR a) now) else acctSwept a now) := Lib.hid rfl
  generalize acctOk a = ok at HOK HSW
  generalize timeB now = tm at HTM HSW
  generalize acctAt a now = am at HSW ⊢
  generalize acctSwept a now = a1 at HSW HCP
  obtain ⟨rr, hrr⟩ : ∃ rr, rr = ringRoll (aR a) now := ⟨_, rfl⟩
  rw [← hrr] at HRL HSW
  clear hrr
  obtain ⟨sp2, hd2, cs2, ss2⟩ := rr
  obtain ⟨id, lim, pos, most, sum, hs, ⟨sp, hd, cs, ss⟩, sl⟩ := a
  obtain ⟨id1, lim1, pos1, most1, sum1, hs1, ⟨sp1, hd1, cs1, ss1⟩, sl1⟩ := a1
  simp only [aId, aLim, aPos, aMost, aSum, aH, aS] at r1 r2 r3 r4 HOK HCP HRL ⊢
  obtain ⟨AH, cH, rfl, -⟩ := Rep.slice_form r1
  obtain ⟨AC, cC, rfl, -⟩ := r2.form
  obtain ⟨AS, cS, rfl, -⟩ := r3.form
  obtain ⟨AL, cL, rfl, -⟩ := Rep.slice_form r4
  clear r1 r2 r3 r4
  go_enter Tryz.func26, Tryz.ntmps26
  go_upto_region 1 with fail
  obtain ⟨W, hW⟩ : ∃ W, W = (w.alloc (.cells #[.string id, .int .i64 lim, .int .i64 pos, .int .i64 most, .int .i64 sum, .slice AH hs.length cH, .int .i64 sp, .int .i64 hd, .slice AC cs.length cC, .slice AS ss.length cS, .slice AL sl.length cL] 50)).alloc (.cells #[.string ⟨#[]⟩, .int .i64 0, .int .i64 0, .int .i64 0, .int .i64 0, .slice none 0 0, .int .i64 0, .int .i64 0, .slice none 0 0, .slice none 0 0, .slice none 0 0] 50) := ⟨_, rfl⟩
  have b0 : bk W w.heap.size 50 [.string id, .int .i64 lim, .int .i64 pos, .int .i64 most, .int .i64 sum, .slice AH hs.length cH, .int .i64 sp, .int .i64 hd, .slice AC cs.length cC, .slice AS ss.length cS, .slice AL sl.length cL] := by rw [hW]; exact (bk.new w _ _).alloc _
  have b1 : bk W (w.heap.size + 1) 50 [.string ⟨#[]⟩, .int .i64 0, .int .i64 0, .int .i64 0, .int .i64 0, .slice none 0 0, .int .i64 0, .int .i64 0, .slice none 0 0, .slice none 0 0, .slice none 0 0] := by rw [hW]; simpa using bk.new (w.alloc _) 50 [.string ⟨#[]⟩, .int .i64 0, .int .i64 0, .int .i64 0, .int .i64 0, .slice none 0 0, .int .i64 0, .int .i64 0, .slice none 0 0, .slice none 0 0, .slice none 0 0]
  have HB0 : Hid (Below w.heap.size w W) := Lib.hid (by rw [hW]; exact ((Below.refl _ _).alloc (Nat.le_refl _) _).alloc (by simp) _)
  have y0 : w.heap.size + 2 ≤ W.heap.size := by rw [hW]; simp
  rw [← hW]
  clear hW
  obtain ⟨⟨p0, p1, p2, p3, p4, p5, p6, p7, p8, p9, p10⟩, -⟩ := b0.eleven
  have B0 := Lib.hid b0
  have B1 := Lib.hid b1
  clear b0 b1
  go_wp2_with fail
  refine (HCP.out W HB0.out).mono ?_
  rintro e w1 ⟨uh, uc, us, ul, rfl, hm1, hb1⟩
  obtain ⟨xh, xc, xs, xl, hcs, q1, q2, q3, q4⟩ := acct_rd hm1.rd
  simp only [aCells, List.cons.injEq, and_true, true_and] at hcs
  obtain ⟨rfl, rfl, rfl, rfl⟩ := hcs
  obtain ⟨A1, c1, rfl, -⟩ := Rep.slice_form q1
  obtain ⟨A3, c3, rfl, -⟩ := q2.form
  obtain ⟨A4, c4, rfl, -⟩ := q3.form
  obtain ⟨A6, c6, rfl, -⟩ := Rep.slice_form q4
  have z1 := hb1.size
  have HM1 := Lib.hid hm1
  have HB1 : Hid (Below w.heap.size w w1) := Lib.hid (HB0.out.trans (hb1.mono (by omega)))
  have C0 := Lib.hid (B0.out.below hb1 (by omega))
  have C1 := Lib.hid (B1.out.below hb1 (by omega))
  clear hm1 hb1 HB0 HCP B0 B1 q1 q2 q3 q4 p0 p1 p2 p3 p4 p5 p6 p7 p8 p9 p10
  simp only [aH, aS, aId, aLim, aPos, aMost, aSum] at HM1 ⊢
  obtain ⟨⟨p0, p1, p2, p3, p4, p5, p6, p7, p8, p9, p10⟩, -⟩ := C0.out.eleven
  go_upto_region 2 with fail
  obtain ⟨W2, hW2⟩ : ∃ W2, W2 = w1.alloc (.cells #[.string id1, .int .i64 lim1, .int .i64 pos1, .int .i64 most1, .int .i64 sum1, .slice A1 hs1.length c1, .int .i64 sp1, .int .i64 hd1, .slice A3 cs1.length c3, .slice A4 ss1.length c4, .slice A6 sl1.length c6] 50) := ⟨_, rfl⟩
  have b2 : bk W2 w1.heap.size 50 [.string id1, .int .i64 lim1, .int .i64 pos1, .int .i64 most1, .int .i64 sum1, .slice A1 hs1.length c1, .int .i64 sp1, .int .i64 hd1, .slice A3 cs1.length c3, .slice A4 ss1.length c4, .slice A6 sl1.length c6] := by rw [hW2]; exact bk.new w1 _ _
  have hb2 : Below w1.heap.size w1 W2 := by rw [hW2]; exact (Below.refl _ _).alloc (Nat.le_refl _) _
  rw [← hW2]
  clear hW2
  have z2 := b2.lt
  have B0 := Lib.hid (C0.out.below hb2 (by omega))
  have B1 := Lib.hid (C1.out.below hb2 (by omega))
  have B2 := Lib.hid b2
  have HM2 := Lib.hid (HM1.out.below hb2 (Nat.le_refl _))
  have HB2 : Hid (Below w.heap.size w W2) := Lib.hid (HB1.out.trans (hb2.mono (by omega)))
  clear hb2 b2 C0 C1 HM1 HB1 p0 p1 p2 p3 p4 p5 p6 p7 p8 p9 p10
  obtain ⟨⟨p0, p1, p2, p3, p4, p5, p6, p7, p8, p9, p10⟩, -⟩ := B0.out.eleven
  go_wp2_with fail
  refine (HOK.out W2 HB2.out).mono ?_
  rintro e w3 ⟨rfl, hb3⟩
  have z3 := hb3.size
  have C0 := Lib.hid (B0.out.below hb3 (by omega))
  have C1 := Lib.hid (B1.out.below hb3 (by omega))
  have C2 := Lib.hid (B2.out.below hb3 (by omega))
  have HM3 := Lib.hid (HM2.out.below hb3 (by omega))
  have HB3 : Hid (Below w.heap.size w w3) := Lib.hid (HB2.out.trans (hb3.mono (by omega)))
  clear hb3 B0 B1 B2 HM2 HB2 HOK p0 p1 p2 p3 p4 p5 p6 p7 p8 p9 p10
  cases ok
  · have HAM : Hid (am = (id1, lim1, pos1, most1, sum1, hs1, (sp1, hd1, cs1, ss1), sl1)) := Lib.hid (by rw [HSW.out]; rfl)
    clear HSW HTM HRL
    have b1 := C1.out
    have b2 := C2.out
    clear C0 C1 C2
    obtain ⟨⟨p0, p1, p2, p3, p4, p5, p6, p7, p8, p9, p10⟩, -⟩ := b2.eleven
    obtain ⟨⟨r0, r1, r2, r3, r4, r5, r6, r7, r8, r9, r10⟩, g0, g1, g2, g3, g4, g5, g6, g7, g8, g9, g10⟩ := b1.eleven
    clear b1 b2
    go_wp2
    refine bodyPost_ret (v := .agg #[.string id1, .int .i64 lim1, .int .i64 pos1, .int .i64 most1, .int .i64 sum1, .slice A1 hs1.length c1, .int .i64 sp1, .int .i64 hd1, .slice A3 cs1.length c3, .slice A4 ss1.length c4, .slice A6 sl1.length c6]) (by simp [results, Tryz.results26, go_sem, r0, r1, r2, r3, r4, r5, r6, r7, r8, r9, r10]) rfl ?_
    have ht := (((((((((((Turned.refl w.heap.size (w.heap.size + 2) w3).set (b := w.heap.size + 1) 0 (.string id1) (by omega) (by omega)).set (b := w.heap.size + 1) 1 (.int .i64 lim1) (by omega) (by omega)).set (b := w.heap.size + 1) 2 (.int .i64 pos1) (by omega) (by omega)).set (b := w.heap.size + 1) 3 (.int .i64 most1) (by omega) (by omega)).set (b := w.heap.size + 1) 4 (.int .i64 sum1) (by omega) (by omega)).set (b := w.heap.size + 1) 5 (.slice A1 hs1.length c1) (by omega) (by omega)).set (b := w.heap.size + 1) 6 (.int .i64 sp1) (by omega) (by omega)).set (b := w.heap.size + 1) 7 (.int .i64 hd1) (by omega) (by omega)).set (b := w.heap.size + 1) 8 (.slice A3 cs1.length c3) (by omega) (by omega)).set (b := w.heap.size + 1) 9 (.slice A4 ss1.length c4) (by omega) (by omega)).set (b := w.heap.size + 1) 10 (.slice A6 sl1.length c6) (by omega) (by omega)
    have hsz := ht.size
    rw [HAM.out]
    exact ⟨_, _, _, _, rfl, (HM3.out.turned ht (.inr (by omega)) (by omega)).mono (by omega) (by omega), HB3.out.trans (ht.below (by omega) (by omega))⟩
  · go_wp2_with fail
    refine (HTM.out w3).mono ?_
    rintro e w4 ⟨rfl, rfl⟩
    cases tm
    · have HAM : Hid (am = (id1, lim1, pos1, most1, sum1, hs1, (sp1, hd1, cs1, ss1), sl1)) := Lib.hid (by rw [HSW.out]; rfl)
      clear HSW HTM HRL
      have b1 := C1.out
      have b2 := C2.out
      clear C0 C1 C2
      obtain ⟨⟨p0, p1, p2, p3, p4, p5, p6, p7, p8, p9, p10⟩, -⟩ := b2.eleven
      obtain ⟨⟨r0, r1, r2, r3, r4, r5, r6, r7, r8, r9, r10⟩, g0, g1, g2, g3, g4, g5, g6, g7, g8, g9, g10⟩ := b1.eleven
      clear b1 b2
      go_wp2
      refine bodyPost_ret (v := .agg #[.string id1, .int .i64 lim1, .int .i64 pos1, .int .i64 most1, .int .i64 sum1, .slice A1 hs1.length c1, .int .i64 sp1, .int .i64 hd1, .slice A3 cs1.length c3, .slice A4 ss1.length c4, .slice A6 sl1.length c6]) (by simp [results, Tryz.results26, go_sem, r0, r1, r2, r3, r4, r5, r6, r7, r8, r9, r10]) rfl ?_
      have ht := (((((((((((Turned.refl w.heap.size (w.heap.size + 2) w3).set (b := w.heap.size + 1) 0 (.string id1) (by omega) (by omega)).set (b := w.heap.size + 1) 1 (.int .i64 lim1) (by omega) (by omega)).set (b := w.heap.size + 1) 2 (.int .i64 pos1) (by omega) (by omega)).set (b := w.heap.size + 1) 3 (.int .i64 most1) (by omega) (by omega)).set (b := w.heap.size + 1) 4 (.int .i64 sum1) (by omega) (by omega)).set (b := w.heap.size + 1) 5 (.slice A1 hs1.length c1) (by omega) (by omega)).set (b := w.heap.size + 1) 6 (.int .i64 sp1) (by omega) (by omega)).set (b := w.heap.size + 1) 7 (.int .i64 hd1) (by omega) (by omega)).set (b := w.heap.size + 1) 8 (.slice A3 cs1.length c3) (by omega) (by omega)).set (b := w.heap.size + 1) 9 (.slice A4 ss1.length c4) (by omega) (by omega)).set (b := w.heap.size + 1) 10 (.slice A6 sl1.length c6) (by omega) (by omega)
      have hsz := ht.size
      rw [HAM.out]
      exact ⟨_, _, _, _, rfl, (HM3.out.turned ht (.inr (by omega)) (by omega)).mono (by omega) (by omega), HB3.out.trans (ht.below (by omega) (by omega))⟩
    · have HAM : Hid (am = (id1, lim1, pos1, most1, sum1, hs1, (sp2, hd2, cs2, ss2), sl1)) := Lib.hid (by rw [HSW.out]; rfl)
      clear HSW HTM
      obtain ⟨⟨p0, p1, p2, p3, p4, p5, p6, p7, p8, p9, p10⟩, -⟩ := C0.out.eleven
      go_wp2_with fail
      refine (HRL.out w3 HB3.out).mono ?_
      rintro e w5 ⟨uc, us, rfl, hu, hb5⟩
      obtain ⟨xc, xs, hcs, y2, y3⟩ := ring_rd hu.rd
      simp only [List.cons.injEq, and_true, true_and] at hcs
      obtain ⟨rfl, rfl⟩ := hcs
      obtain ⟨AN, cN, rfl, -⟩ := y2.form
      obtain ⟨AM, cM, rfl, -⟩ := y3.form
      simp only at hu ⊢
      have z5 := hb5.size
      have HM5 := Lib.hid (HM3.out.below hb5 (by omega))
      have HU5 := Lib.hid hu
      have HB5 : Hid (Below w.heap.size w w5) := Lib.hid (HB3.out.trans (hb5.mono (by omega)))
      have D1 := Lib.hid (C1.out.below hb5 (by omega))
      have D2 := Lib.hid (C2.out.below hb5 (by omega))
      clear hu hb5 HM3 HB3 HRL C0 C1 C2 y2 y3 p0 p1 p2 p3 p4 p5 p6 p7 p8 p9 p10
      obtain ⟨⟨p0, p1, p2, p3, p4, p5, p6, p7, p8, p9, p10⟩, f0, f1, f2, f3, f4, f5, f6, f7, f8, f9, f10⟩ := D2.out.eleven
      have hq := (((D2.out.set 6 (.int .i64 sp2)).set 7 (.int .i64 hd2)).set 8 (.slice AN cs2.length cN)).set 9 (.slice AM ss2.length cM)
      have ht5 := ((((Turned.refl w1.heap.size (w1.heap.size + 1) w5).set (b := w1.heap.size) 6 (.int .i64 sp2) (by omega) (by omega)).set (b := w1.heap.size) 7 (.int .i64 hd2) (by omega) (by omega)).set (b := w1.heap.size) 8 (.slice AN cs2.length cN) (by omega) (by omega)).set (b := w1.heap.size) 9 (.slice AM ss2.length cM) (by omega) (by omega)
      go_upto_region 4 with fail
      obtain ⟨W6, hW6⟩ : ∃ W6, W6 = (((w5.setCell ⟨w1.heap.size, 6, none⟩ (.int .i64 sp2)).setCell ⟨w1.heap.size, 7, none⟩ (.int .i64 hd2)).setCell ⟨w1.heap.size, 8, none⟩ (.slice AN cs2.length cN)).setCell ⟨w1.heap.size, 9, none⟩ (.slice AM ss2.length cM) := ⟨_, rfl⟩
      rw [← hW6] at hq ht5 ⊢
      clear hW6
      have z6 := ht5.size
      have HM6 := Lib.hid (swapR (r := (sp2, hd2, cs2, ss2)) (p0 := W.heap.size) (p1 := w1.heap.size) (p2 := W6.heap.size) (HM5.out.turned ht5 (.inl (Nat.le_refl _)) (by omega)) ((HU5.out.turned ht5 (.inr (by omega)) (Nat.le_refl _)).mono (lo' := w1.heap.size) (hi' := W6.heap.size) (by omega) (by omega)) (by omega) (by omega))
      have HB6 := Lib.hid (HB5.out.trans (ht5.below (B := w.heap.size) (by omega) (by omega)))
      have b1 := D1.out.under ht5 (by omega)
      have b2 : bk W6 w1.heap.size 50 [.string id1, .int .i64 lim1, .int .i64 pos1, .int .i64 most1, .int .i64 sum1, .slice A1 hs1.length c1, .int .i64 sp2, .int .i64 hd2, .slice AN cs2.length cN, .slice AM ss2.length cM, .slice A6 sl1.length c6] := hq
      clear hq ht5 HM5 HU5 HB5 D1 D2 p0 p1 p2 p3 p4 p5 p6 p7 p8 p9 p10 f0 f1 f2 f3 f4 f5 f6 f7 f8 f9 f10
      simp only [setR, aId, aLim, aPos, aMost, aSum, aH, aS] at HM6
      obtain ⟨⟨p0, p1, p2, p3, p4, p5, p6, p7, p8, p9, p10⟩, -⟩ := b2.eleven
      obtain ⟨⟨r0, r1, r2, r3, r4, r5, r6, r7, r8, r9, r10⟩, g0, g1, g2, g3, g4, g5, g6, g7, g8, g9, g10⟩ := b1.eleven
      clear b1 b2
      go_wp2
      refine bodyPost_ret (v := .agg #[.string id1, .int .i64 lim1, .int .i64 pos1, .int .i64 most1, .int .i64 sum1, .slice A1 hs1.length c1, .int .i64 sp2, .int .i64 hd2, .slice AN cs2.length cN, .slice AM ss2.length cM, .slice A6 sl1.length c6]) (by simp [results, Tryz.results26, go_sem, r0, r1, r2, r3, r4, r5, r6, r7, r8, r9, r10]) rfl ?_
      have ht := (((((((((((Turned.refl w.heap.size (w.heap.size + 2) W6).set (b := w.heap.size + 1) 0 (.string id1) (by omega) (by omega)).set (b := w.heap.size + 1) 1 (.int .i64 lim1) (by omega) (by omega)).set (b := w.heap.size + 1) 2 (.int .i64 pos1) (by omega) (by omega)).set (b := w.heap.size + 1) 3 (.int .i64 most1) (by omega) (by omega)).set (b := w.heap.size + 1) 4 (.int .i64 sum1) (by omega) (by omega)).set (b := w.heap.size + 1) 5 (.slice A1 hs1.length c1) (by omega) (by omega)).set (b := w.heap.size + 1) 6 (.int .i64 sp2) (by omega) (by omega)).set (b := w.heap.size + 1) 7 (.int .i64 hd2) (by omega) (by omega)).set (b := w.heap.size + 1) 8 (.slice AN cs2.length cN) (by omega) (by omega)).set (b := w.heap.size + 1) 9 (.slice AM ss2.length cM) (by omega) (by omega)).set (b := w.heap.size + 1) 10 (.slice A6 sl1.length c6) (by omega) (by omega)
      have hsz := ht.size
      rw [HAM.out]
      exact ⟨_, _, _, _, rfl, (HM6.out.turned ht (.inr (by omega)) (by omega)).mono (by omega) (by omega), HB6.out.trans (ht.below (by omega) (by omega))⟩
end Go.Proofs.YthnimmagaocipaaGreatDoor
set_option linter.unusedVariables false
namespace Go.Proofs.YthnimmagaocipaaGreatDoor
open Go.ChangeShapes Go.WideShapes Go.ChangeAt Go.RowKit

set_option maxRecDepth 100000 in
theorem implAcctIdOk_any (s : ByteArray) (w : World) (hs : s.size ≤ maxLen) :
    Calls Tryz.prog 93 #[.string s] w fun e w' => e = .returned (.bool (acctIdB s)) ∧ Below w.heap.size w w' := by
  by_cases h : s.size ≤ 19
  · have HI : Hid (acctIdB s = luOk s) := Lib.hid (by unfold acctIdB; rw [decide_eq_true h]; rfl)
    have HL := Lib.hid (fun w => implLuhnOk_any s w (by omega))
    have h' : (s.size : Int) ≤ 19 := by omega
    rw [HI.out]
    generalize luOk s = b at HL
    go_enter Tryz.func93, Tryz.ntmps93
    go_wp2_with fail
    refine (HL.out _).mono ?_
    rintro e w1 ⟨rfl, hb⟩
    go_wp2
    go_ret
    exact ⟨rfl, hb⟩
  · have HI : Hid (acctIdB s = false) := Lib.hid (by unfold acctIdB; rw [decide_eq_false h]; rfl)
    have h' : ¬ (s.size : Int) ≤ 19 := by omega
    rw [HI.out]
    go_enter Tryz.func93, Tryz.ntmps93
    go_wp2
    go_ret
    exact ⟨rfl, Below.refl _ _⟩
end Go.Proofs.YthnimmagaocipaaGreatDoor
set_option linter.unusedVariables false
namespace Go.Proofs.YthnimmagaocipaaGreatDoor
open Go.ChangeShapes Go.WideShapes Go.ChangeAt Go.RowKit

set_option maxRecDepth 100000 in
theorem implTime_any (n : Int) (w : World) : Calls Tryz.prog 102 #[.int .i64 n] w fun e w' => e = .returned (.bool (timeB n)) ∧ w = w' := by
  by_cases h0 : 0 ≤ n
  all_goals
    go_enter Tryz.func102, Tryz.ntmps102
    go_wp2
    go_ret
    exact ⟨by simp [timeB, inB]; omega, rfl⟩
set_option maxRecDepth 100000 in
theorem implSpan_any (n : Int) (w : World) : Calls Tryz.prog 120 #[.int .i64 n] w fun e w' => e = .returned (.bool (inB n 1 1000)) ∧ w = w' := by
  by_cases h0 : 1 ≤ n
  all_goals
    go_enter Tryz.func120, Tryz.ntmps120
    go_wp2
    go_ret
    exact ⟨by simp [inB]; omega, rfl⟩
set_option maxRecDepth 100000 in
theorem implBuckets_any (n : Int) (w : World) : Calls Tryz.prog 121 #[.int .i64 n] w fun e w' => e = .returned (.bool (inB n 1 8)) ∧ w = w' := by
  by_cases h0 : 1 ≤ n
  all_goals
    go_enter Tryz.func121, Tryz.ntmps121
    go_wp2
    go_ret
    exact ⟨by simp [inB]; omega, rfl⟩
set_option maxRecDepth 100000 in
theorem implIsMon_any (n : Int) (w : World) : Calls Tryz.prog 118 #[.int .i64 n] w fun e w' => e = .returned (.bool (isMon n)) ∧ w = w' := by
  by_cases h0 : 0 ≤ n
  all_goals
    go_enter Tryz.func118, Tryz.ntmps118
    go_wp2
    go_ret
    exact ⟨by simp [isMon]; omega, rfl⟩
set_option maxRecDepth 100000 in
set_option maxHeartbeats 1600000 in
theorem implAll_any (hi : Nat) (v : Value) (l : List Int) (w : World) (h : rd .i64 hi w v l) (hl : l.length ≤ 1048576) :
    Calls Tryz.prog 122 #[v] w fun e w' => e = .returned (.bool (l.all isMon)) ∧ w = w' := by
  obtain ⟨A, c, rfl, -⟩ := h.form
  have HC := Lib.hid h
  clear h
  go_enter Tryz.func122, Tryz.ntmps122
  go_wp2
  go_loop [7] (fun iv => ∃ i : Nat, i ≤ l.length ∧ iv = .int .i64 i ∧ Hid ((l.take i).all isMon = true)) (fun iv => l.length - (intOf iv).toNat)
  case atStart => exact ⟨0, Nat.zero_le _, rfl, Lib.hid rfl⟩
  case round =>
    obtain ⟨i, hi', rfl, HA⟩ := hrel
    by_cases hin : i < l.length
    · obtain ⟨x, hx⟩ : ∃ x, l[i]? = some x := ⟨_, List.getElem?_eq_getElem hin⟩
      obtain ⟨p, o, rfl, hp, d0⟩ := ring_at HC.out hx
      have HX := Lib.hid (all_snoc hx HA.out)
      have HMX := Lib.hid (fun w => implIsMon_any x w)
      have HLX := Lib.hid (all_fail hx)
      have g1 : (i : Int) < (l.length : Int) := by omega
      have g2 : 0 ≤ (i : Int) := by omega
      clear hx
      generalize isMon x = mx at HX HMX HLX
      cases mx
      · have HF := Lib.hid (HLX.out rfl)
        go_wp2_with fail
        refine (HMX.out _).mono ?_
        rintro e w2 ⟨rfl, rfl⟩
        go_wp2
        go_ret
        exact ⟨by rw [HF.out]; rfl, rfl⟩
      · go_wp2_with fail
        refine (HMX.out _).mono ?_
        rintro e w2 ⟨rfl, rfl⟩
        go_wp2
        go_round
        case rel => exact ⟨i + 1, by omega, by go_num, Lib.hid (HX.out trivial)⟩
        case measure => simp [intOf] <;> omega
    · obtain rfl : i = l.length := by omega
      have HF : Hid (l.all isMon = true) := Lib.hid (by have h1 := HA.out; rwa [List.take_length] at h1)
      go_wp2
      go_ret
      exact ⟨by rw [HF.out]; rfl, rfl⟩
set_option maxRecDepth 100000 in
set_option maxHeartbeats 4000000 in
theorem implRingOk_any (hi : Nat) (vc vs : Value) (r : RingD) (w : World) (hc : rd .i64 hi w vc r.2.2.1) (hs : rd .i64 hi w vs r.2.2.2) (hh : hi ≤ w.heap.size) (hlc : r.2.2.1.length ≤ 1048576) (hls : r.2.2.2.length ≤ 1048576) :
    Calls Tryz.prog 96 #[.agg #[.int .i64 r.1, .int .i64 r.2.1, vc, vs]] w fun e w' => e = .returned (.bool (ringOk r)) ∧ Below w.heap.size w w' := by
  obtain ⟨sp, hd, cs, ss⟩ := r
  simp only at hc hs hlc hls ⊢
  obtain ⟨AC, cC, rfl, hcC⟩ := hc.form
  obtain ⟨AS, cS, rfl, hcS⟩ := hs.form
  have HB0 : Hid (Below w.heap.size w (w.alloc (.cells #[.int .i64 sp, .int .i64 hd, .slice AC cs.length cC, .slice AS ss.length cS] 47))) := Lib.hid ((Below.refl _ _).alloc (Nat.le_refl _) _)
  have HE : Hid (ringOk (sp, hd, cs, ss) = ((inB sp 1 1000 && (inB (cs.length : Int) 1 8 && (((cs.length : Int) == (ss.length : Int)) && timeB hd))) && (cs.all isMon && ss.all isMon))) := Lib.hid (by
    have e : decide (ss.length = cs.length) = ((cs.length : Int) == (ss.length : Int)) := by
      by_cases h : ss.length = cs.length
      · rw [h]; simp
      · rw [decide_eq_false h]; symm; simp; omega
    rw [← e]; rfl)
  have HI1 := Lib.hid (fun w => implSpan_any sp w)
  have HI2 := Lib.hid (fun w => implBuckets_any (cs.length : Int) w)
  have HT := Lib.hid (fun w => implTime_any hd w)
  have HA1 := Lib.hid (implAll_any hi _ cs _ (hc.below HB0.out hh) hlc)
  have HA2 := Lib.hid (implAll_any hi _ ss _ (hs.below HB0.out hh) hls)
  clear hc hs
  generalize inB sp 1 1000 = b1 at HI1 HE
  generalize inB (cs.length : Int) 1 8 = b2 at HI2 HE
  generalize timeB hd = b4 at HT HE
  generalize cs.all isMon = m1 at HA1 HE
  generalize ss.all isMon = m2 at HA2 HE
  obtain ⟨d, hd5⟩ : ∃ d, d = ((cs.length : Int) == (ss.length : Int)) := ⟨_, rfl⟩
  rw [← hd5] at HE
  go_enter Tryz.func96, Tryz.ntmps96
  go_wp2_with fail
  refine (HI1.out _).mono ?_
  rintro e w1 ⟨rfl, rfl⟩
  cases b1
  · go_wp2
    go_ret
    exact ⟨by rw [HE.out]; simp, HB0.out⟩
  go_wp2_with fail
  refine (HT.out _).mono ?_
  rintro e w1 ⟨rfl, rfl⟩
  cases b4
  · go_wp2
    go_ret
    exact ⟨by rw [HE.out]; simp, HB0.out⟩
  go_wp2_with fail
  refine (HI2.out _).mono ?_
  rintro e w1 ⟨rfl, rfl⟩
  cases b2
  · go_wp2
    go_ret
    exact ⟨by rw [HE.out]; simp, HB0.out⟩
  cases d
  · replace hd5 := hd5.symm
    go_wp2
    go_ret
    exact ⟨by rw [HE.out]; simp, HB0.out⟩
  replace hd5 := hd5.symm
  go_wp2_with fail
  refine (HA1.out).mono ?_
  rintro e w1 ⟨rfl, rfl⟩
  cases m1
  · go_wp2
    go_ret
    exact ⟨by rw [HE.out]; simp, HB0.out⟩
  go_wp2_with fail
  refine (HA2.out).mono ?_
  rintro e w1 ⟨rfl, rfl⟩
  cases m2
  · go_wp2
    go_ret
    exact ⟨by rw [HE.out]; simp, HB0.out⟩
  go_wp2
  go_ret
  exact ⟨by rw [HE.out]; simp, HB0.out⟩
set_option maxRecDepth 100000 in
set_option maxHeartbeats 4000000 in
theorem implCanRoll_any (hi : Nat) (vc vs : Value) (r : RingD) (now : Int) (w : World) (hc : rd .i64 hi w vc r.2.2.1) (hs : rd .i64 hi w vs r.2.2.2) (hh : hi ≤ w.heap.size) (hlc : r.2.2.1.length ≤ 1048576) (hls : r.2.2.2.length ≤ 1048576) :
    Calls Tryz.prog 103 #[.agg #[.int .i64 r.1, .int .i64 r.2.1, vc, vs], .int .i64 now] w fun e w' => e = .returned (.bool (ringOk r && timeB now)) ∧ Below w.heap.size w w' := by
  have HB0 : Hid (Below w.heap.size w (w.alloc (.cells #[.int .i64 r.1, .int .i64 r.2.1, vc, vs] 47))) := Lib.hid ((Below.refl _ _).alloc (Nat.le_refl _) _)
  have HO := Lib.hid (implRingOk_any hi vc vs r _ (hc.below HB0.out hh) (hs.below HB0.out hh) (Nat.le_trans hh HB0.out.size) hlc hls)
  have HT := Lib.hid (fun w => implTime_any now w)
  obtain ⟨AC, cC, rfl, hcC⟩ := hc.form
  obtain ⟨AS, cS, rfl, hcS⟩ := hs.form
  clear hc hs
  generalize ringOk r = ok at HO
  generalize timeB now = tm at HT
  cases ok
  · go_enter Tryz.func103, Tryz.ntmps103
    go_wp2_with fail
    refine (HO.out).mono ?_
    rintro e w1 ⟨rfl, hb⟩
    go_wp2
    go_ret
    exact ⟨rfl, HB0.out.trans (hb.mono (by simp))⟩
  · go_enter Tryz.func103, Tryz.ntmps103
    go_wp2_with fail
    refine (HO.out).mono ?_
    rintro e w1 ⟨rfl, hb⟩
    go_wp2_with fail
    refine (HT.out _).mono ?_
    rintro e w2 ⟨rfl, rfl⟩
    go_wp2
    go_ret
    exact ⟨rfl, HB0.out.trans (hb.mono (by simp))⟩
end Go.Proofs.YthnimmagaocipaaGreatDoor
set_option linter.unusedVariables false
namespace Go.Proofs.YthnimmagaocipaaGreatDoor
open Go.ChangeShapes Go.WideShapes Go.ChangeAt Go.RowKit

/-- the library's handle of the type error -/
def Handle (w : World) : Prop := w.cell? ⟨1, 0, none⟩ = some (.iface RT (.agg #[.pointer (some ⟨2, ER, none⟩)]))
set_option maxRecDepth 100000 in
theorem Handle.lt {w : World} (h : Handle w) : 1 < w.heap.size := by
  unfold Handle at h
  rcases Nat.lt_or_ge 1 w.heap.size with h' | h'
  · exact h'
  · simp [World.cell?, Array.getElem?_eq_none h'] at h
set_option maxRecDepth 100000 in
theorem Handle.below {w w' : World} {B : Nat} (h : Handle w) (hb : Below B w w') (hB : w.heap.size ≤ B) : Handle w' := (hb.cell (p := ⟨_, _, none⟩) (show 1 < B by have := h.lt; omega)).trans h
set_option maxRecDepth 100000 in
theorem Handle.turned {w w' : World} {lo hi : Nat} (h : Handle w) (ht : Turned lo hi w w') (hb : 1 < lo ∨ hi ≤ 1) : Handle w' := (cell_keep (ht.block _ h.lt hb)).trans h
end Go.Proofs.YthnimmagaocipaaGreatDoor
set_option linter.unusedVariables false
namespace Go.Proofs.YthnimmagaocipaaGreatDoor
open Go.ChangeShapes Go.WideShapes Go.ChangeAt Go.RowKit

set_option maxRecDepth 100000 in
theorem implLimit_any (n : Int) (w : World) : Calls Tryz.prog 117 #[.int .i64 n] w fun e w' => e = .returned (.bool (inB n 0 9007199254740992)) ∧ w = w' := by
  by_cases h0 : 0 ≤ n
  all_goals
    go_enter Tryz.func117, Tryz.ntmps117
    go_wp2
    go_ret
    exact ⟨by simp [inB]; omega, rfl⟩
/-- are the four numbers in their ranges -/
def amtsB (l p m s : Int) : Bool := inB l 0 9007199254740992 && (isMon p && (inB m 0 1000 && inB s 0 9007199254740992))
set_option maxRecDepth 100000 in
set_option maxHeartbeats 1600000 in
theorem implInRange_any (l p m s : Int) (w : World) :
    Calls Tryz.prog 94 #[.agg #[.int .i64 l, .int .i64 p, .int .i64 m, .int .i64 s]] w fun e w' => e = .returned (.bool (amtsB l p m s)) ∧ Below w.heap.size w w' := by
  have HE : Hid (amtsB l p m s = (inB l 0 9007199254740992 && (isMon p && (inB m 0 1000 && inB s 0 9007199254740992)))) := Lib.hid rfl
  have H1 := Lib.hid (fun w => implLimit_any l w)
  have H2 := Lib.hid (fun w => implIsMon_any p w)
  have H3 := Lib.hid (fun w => implLimit_any s w)
  have HM : Hid (inB m 0 1000 = (decide (0 ≤ m) && decide (m ≤ 1000))) := Lib.hid (by unfold inB; rw [Bool.decide_and])
  have HB0 : Hid (∀ o, Below w.heap.size w (w.alloc o)) := Lib.hid fun o => (Below.refl _ _).alloc (Nat.le_refl _) _
  generalize inB l 0 9007199254740992 = b1 at HE H1
  generalize isMon p = b2 at HE H2
  generalize inB s 0 9007199254740992 = b4 at HE H3
  rw [HM.out] at HE
  generalize amtsB l p m s = res at HE ⊢
  go_enter Tryz.func94, Tryz.ntmps94
  go_wp2_with fail
  refine (H1.out _).mono ?_
  rintro e w1 ⟨rfl, rfl⟩
  cases b1
  · go_wp2
    go_ret
    exact ⟨by rw [HE.out]; rfl, HB0.out _⟩
  go_wp2_with fail
  refine (H2.out _).mono ?_
  rintro e w1 ⟨rfl, rfl⟩
  cases b2
  · go_wp2
    go_ret
    exact ⟨by rw [HE.out]; rfl, HB0.out _⟩
  by_cases m0 : 0 ≤ m
  rotate_left
  · have HN := Lib.hid (HE.out.trans (show _ = false by rw [decide_eq_false m0]; rfl))
    go_wp2
    go_ret
    exact ⟨by rw [HN.out]; rfl, HB0.out _⟩
  by_cases m1 : m ≤ 1000
  rotate_left
  · have HN := Lib.hid (HE.out.trans (show _ = false by rw [decide_eq_false m1]; simp))
    go_wp2
    go_ret
    exact ⟨by rw [HN.out]; rfl, HB0.out _⟩
  have HN := Lib.hid (HE.out.trans (show _ = b4 by rw [decide_eq_true m1, decide_eq_true m0]; rfl))
  go_wp2_with fail
  refine (H3.out _).mono ?_
  rintro e w1 ⟨rfl, rfl⟩
  go_wp2
  go_ret
  exact ⟨by rw [HN.out]; rfl, HB0.out _⟩
set_option maxRecDepth 100000 in
theorem implCovers_any (l p m s h : Int) (w : World) (hg : Handle w) :
    Calls Tryz.prog 98 #[.agg #[.int .i64 l, .int .i64 p, .int .i64 m, .int .i64 s], .int .i64 h] w fun e w' => e = .returned (.bool (decide (satVal p h ≤ l))) ∧ Below w.heap.size w w' := by
  have HB0 : Hid (Below w.heap.size w (w.alloc (.cells #[.int .i64 l, .int .i64 p, .int .i64 m, .int .i64 s] 86))) := Lib.hid ((Below.refl _ _).alloc (Nat.le_refl _) _)
  have b0 := bk.new w 86 [.int .i64 l, .int .i64 p, .int .i64 m, .int .i64 s]
  have b0 : bk (w.alloc (.cells #[.int .i64 l, .int .i64 p, .int .i64 m, .int .i64 s] 86)) w.heap.size 86 [.int .i64 l, .int .i64 p, .int .i64 m, .int .i64 s] := b0
  have HSA := Lib.hid (fun W (hW : Below w.heap.size w W) => implSat_any p h W (hg.below hW (Nat.le_refl _)))
  generalize satVal p h = sv at HSA ⊢
  go_enter Tryz.func98, Tryz.ntmps98
  go_upto_region 1 with fail
  obtain ⟨W, hW⟩ : ∃ W, W = w.alloc (.cells #[.int .i64 l, .int .i64 p, .int .i64 m, .int .i64 s] 86) := ⟨_, rfl⟩
  rw [← hW] at HB0 b0 ⊢
  clear hW hg
  obtain ⟨⟨p0, p1, p2, p3⟩, -⟩ := b0.cells
  have z0 := b0.lt
  have P0 := Lib.hid p0
  have P1 := Lib.hid p1
  clear p0 p1 p2 p3 b0
  have HBX : Hid (∀ V, Ext W V → Below w.heap.size w V) := Lib.hid fun V hV => HB0.out.trans (hV.below.mono (by omega))
  have HX : Hid (Ext W W.drew) := Lib.hid (Ext.refl W).drew
  by_cases hle : sv ≤ l
  all_goals
    refine quiet_region (C := Ext W) (by kernel_rfl) (by kernel_rfl) HX.out ?_
    repeat (first
      | go_big_quiet_skip
      | (go_big_quiet_want; go_big_quiet_op; go_big_quiet_on)
      | (go_big_quiet_want; go_big_quiet_op; apply Exists.intro; refine ⟨fun _ _ => rfl, ?_⟩; go_big_quiet_on)
      | (go_big_quiet_want
         apply Exists.intro
         refine ⟨fun V hV => ?_, ?_⟩
         (have q0 := hV.cell P0.out (by omega)
          have q1 := hV.cell P1.out (by omega)
          unfold Oper.quietAt
          go_simp
          rfl)
         simp only [Act.put, List.setIfInBounds_toArray, List.set_cons_zero, List.set_cons_succ]
         go_big_quiet_on)
      | (go_big_quiet_want
         apply Exists.intro
         refine ⟨fun V hV => ?_, ?_⟩
         (unfold Oper.quietAt
          go_simp
          go_at_call 125
          refine (HSA.out V (HBX.out V hV)).mono ?_
          rintro e w4 ⟨rfl, hb4⟩
          exact ⟨rfl, hV.step hb4⟩)
         simp only [Act.put, List.setIfInBounds_toArray, List.set_cons_zero, List.set_cons_succ]
         go_big_quiet_on)
      | fail)
    refine wpQuiet_nil ?_
    intro W4 hW4
    go_wp2
    go_ret
    exact ⟨by simp [hle], HBX.out W4 hW4⟩
end Go.Proofs.YthnimmagaocipaaGreatDoor
set_option linter.unusedVariables false
namespace Go.Proofs.YthnimmagaocipaaGreatDoor
open Go.ChangeShapes Go.WideShapes Go.ChangeAt Go.RowKit

set_option maxRecDepth 100000 in
set_option maxHeartbeats 1600000 in
/-- an account's cells as the program's own account holds them -/
theorem implAccountOf_any (id : ByteArray) (l p m s : Int) (A1 : Option Addr) (n1 c1 : Nat) (rs rh : Int) (A2 : Option Addr) (n2 c2 : Nat) (A3 : Option Addr) (n3 c3 : Nat) (A4 : Option Addr) (n4 c4 : Nat) (w : World) :
    Calls Tryz.prog 58 #[.agg #[.string id, .int .i64 l, .int .i64 p, .int .i64 m, .int .i64 s, .slice A1 n1 c1, .int .i64 rs, .int .i64 rh, .slice A2 n2 c2, .slice A3 n3 c3, .slice A4 n4 c4]] w fun e w' => e = .returned (.agg #[.int .i64 l, .int .i64 p, .int .i64 m, .int .i64 s, .string id, .slice A1 n1 c1, .int .i64 rs, .int .i64 rh, .slice A2 n2 c2, .slice A3 n3 c3, .slice A4 n4 c4]) ∧ Below w.heap.size w w' := by
  go_enter Tryz.func58, Tryz.ntmps58
  go_upto_region 1 with fail
  obtain ⟨W, hW⟩ : ∃ W, W = (w.alloc (.cells #[.string id, .int .i64 l, .int .i64 p, .int .i64 m, .int .i64 s, .slice A1 n1 c1, .int .i64 rs, .int .i64 rh, .slice A2 n2 c2, .slice A3 n3 c3, .slice A4 n4 c4] 50)).alloc (.cells #[.int .i64 0, .int .i64 0, .int .i64 0, .int .i64 0, .string ⟨#[]⟩, .slice none 0 0, .int .i64 0, .int .i64 0, .slice none 0 0, .slice none 0 0, .slice none 0 0] 88) := ⟨_, rfl⟩
  have b0 : bk W w.heap.size 50 [.string id, .int .i64 l, .int .i64 p, .int .i64 m, .int .i64 s, .slice A1 n1 c1, .int .i64 rs, .int .i64 rh, .slice A2 n2 c2, .slice A3 n3 c3, .slice A4 n4 c4] := by rw [hW]; exact (bk.new w _ _).alloc _
  have b1 : bk W (w.heap.size + 1) 88 [.int .i64 0, .int .i64 0, .int .i64 0, .int .i64 0, .string ⟨#[]⟩, .slice none 0 0, .int .i64 0, .int .i64 0, .slice none 0 0, .slice none 0 0, .slice none 0 0] := by rw [hW]; simpa using bk.new (w.alloc _) 88 [.int .i64 0, .int .i64 0, .int .i64 0, .int .i64 0, .string ⟨#[]⟩, .slice none 0 0, .int .i64 0, .int .i64 0, .slice none 0 0, .slice none 0 0, .slice none 0 0]
  have HB : Hid (Below w.heap.size w W) := Lib.hid (by rw [hW]; exact ((Below.refl _ _).alloc (Nat.le_refl _) _).alloc (by simp) _)
  have z : w.heap.size + 2 ≤ W.heap.size := by rw [hW]; simp
  rw [← hW]
  clear hW
  obtain ⟨⟨p0, p1, p2, p3, p4, p5, p6, p7, p8, p9, p10⟩, -⟩ := b0.eleven
  obtain ⟨⟨r0, r1, r2, r3, r4, r5, r6, r7, r8, r9, r10⟩, g0, g1, g2, g3, g4, g5, g6, g7, g8, g9, g10⟩ := b1.eleven
  clear b0 b1
  go_wp2
  refine bodyPost_ret (v := .agg #[.int .i64 l, .int .i64 p, .int .i64 m, .int .i64 s, .string id, .slice A1 n1 c1, .int .i64 rs, .int .i64 rh, .slice A2 n2 c2, .slice A3 n3 c3, .slice A4 n4 c4]) (by simp [results, Tryz.results58, go_sem, r0, r1, r2, r3, r4, r5, r6, r7, r8, r9, r10]) rfl ?_
  refine ⟨rfl, ?_⟩
  repeat (refine Below.setCell ?_ (by simp <;> omega) _)
  exact HB.out
end Go.Proofs.YthnimmagaocipaaGreatDoor
set_option linter.unusedVariables false
namespace Go.Proofs.YthnimmagaocipaaGreatDoor
open Go.ChangeShapes Go.WideShapes Go.ChangeAt Go.RowKit

set_option maxRecDepth 100000 in
theorem bl_irrefl : ∀ a : List UInt8, Op.bytesLess a a = false
  | [] => rfl
  | x :: a => by
    have h := bl_irrefl a
    simp [Op.bytesLess, h]
set_option maxRecDepth 100000 in
/-- the three ways in which two strings lie -/
theorem bl_cmp : ∀ a b : List UInt8, (Lib.compareBytes a b = -1 ∧ Op.bytesLess a b = true ∧ Op.bytesLess b a = false ∧ a ≠ b) ∨ (Lib.compareBytes a b = 0 ∧ a = b) ∨ (Lib.compareBytes a b = 1 ∧ Op.bytesLess b a = true ∧ Op.bytesLess a b = false ∧ a ≠ b)
  | [], [] => .inr (.inl ⟨rfl, rfl⟩)
  | [], _ :: _ => .inl ⟨rfl, rfl, rfl, by simp⟩
  | _ :: _, [] => .inr (.inr ⟨rfl, rfl, rfl, by simp⟩)
  | x :: a, y :: b => by
    unfold Lib.compareBytes
    by_cases h1 : x < y
    · have h2 : ¬ y < x := UInt8.lt_asymm h1
      have h3 : x ≠ y := UInt8.ne_of_lt h1
      exact .inl ⟨by simp [h1], by simp [Op.bytesLess, h1], by simp [Op.bytesLess, h2, h3.symm], by simp [h3]⟩
    · by_cases h2 : y < x
      · have h3 : y ≠ x := UInt8.ne_of_lt h2
        exact .inr (.inr ⟨by simp [h1, h2], by simp [Op.bytesLess, h2], by simp [Op.bytesLess, h1, h3.symm], by simp [h3.symm]⟩)
      · obtain rfl : x = y := UInt8.le_antisymm (UInt8.not_lt.1 h2) (UInt8.not_lt.1 h1)
        have ih := bl_cmp a b
        simpa [Op.bytesLess, h1] using ih
set_option maxRecDepth 100000 in
theorem str_cmp (a b : ByteArray) : (Lib.compareBytes a.data.toList b.data.toList = -1 ∧ strLt a b = true ∧ strLt b a = false ∧ a ≠ b) ∨ (Lib.compareBytes a.data.toList b.data.toList = 0 ∧ a = b) ∨ (Lib.compareBytes a.data.toList b.data.toList = 1 ∧ strLt b a = true ∧ strLt a b = false ∧ a ≠ b) := by
  have h := bl_cmp a.toList b.toList
  unfold strLt
  have e1 : a.data.toList = a.toList := (Lib.toList_data a).symm
  have e2 : b.data.toList = b.toList := (Lib.toList_data b).symm
  rw [e1, e2]
  rcases h with ⟨h1, h2, h3, h4⟩ | ⟨h1, h2⟩ | ⟨h1, h2, h3, h4⟩
  · exact .inl ⟨h1, h2, h3, fun e => h4 (by rw [e])⟩
  · exact .inr (.inl ⟨h1, str_eq_list.1 h2⟩)
  · exact .inr (.inr ⟨h1, h2, h3, fun e => h4 (by rw [e])⟩)
set_option maxRecDepth 100000 in
theorem strLt_irrefl (a : ByteArray) : strLt a a = false := bl_irrefl _
/-- the id before element i -/
def befH (l : List HoldD) (i : Nat) : ByteArray := if i = 0 then ⟨#[]⟩ else (l.getD (i - 1) noH).1
set_option maxRecDepth 100000 in
theorem idOk_ne {s : ByteArray} (h : idOk s = true) : strLt ⟨#[]⟩ s = true := by
  unfold idOk inB at h
  simp only [Bool.and_eq_true, decide_eq_true_eq] at h
  have h1 : s ≠ ⟨#[]⟩ := fun e => by rw [e] at h; have h2 : (1 : Int) ≤ ((⟨#[]⟩ : ByteArray).size : Int) := h.2.1; have e2 : (⟨#[]⟩ : ByteArray).size = 0 := rfl; omega
  rcases str_cmp ⟨#[]⟩ s with ⟨_, h2, _⟩ | ⟨_, h2⟩ | ⟨_, h2, _⟩
  · exact h2
  · exact absurd h2.symm h1
  · unfold strLt at h2
    have e : (⟨#[]⟩ : ByteArray).toList = [] := by rw [Lib.toList_data]
    rw [e] at h2
    cases s.toList <;> simp [Op.bytesLess] at h2
set_option maxRecDepth 100000 in
theorem holdAt_bef {l : List HoldD} {i : Nat} {x : HoldD} (hx : l[i]? = some x) : holdAtOk l i = (holdOk x && strLt (befH l i) x.1) := by
  unfold holdAtOk befH
  have e : l.getD i noH = x := by rw [List.getD_eq_getElem?_getD, hx]; rfl
  rw [e]
  cases hk : holdOk x
  · rfl
  · have hid : idOk x.1 = true := by unfold holdOk at hk; simp only [Bool.and_eq_true] at hk; exact hk.1
    by_cases h0 : i = 0
    · subst h0; simp [idOk_ne hid]
    · simp [h0]
set_option maxRecDepth 100000 in
theorem befH_next {l : List HoldD} {i : Nat} {x : HoldD} (hx : l[i]? = some x) : befH l (i + 1) = x.1 := by
  unfold befH
  rw [if_neg (by omega), Nat.add_sub_cancel, List.getD_eq_getElem?_getD, hx]; rfl
end Go.Proofs.YthnimmagaocipaaGreatDoor
set_option linter.unusedVariables false
namespace Go.Proofs.YthnimmagaocipaaGreatDoor
open Go.ChangeShapes Go.WideShapes Go.ChangeAt Go.RowKit

set_option maxRecDepth 100000 in
theorem empty_yes (s : ByteArray) (h : ¬ 0 < s.size) : s.toList.isEmpty = true := by
  have := not_empty s
  rw [decide_eq_false h] at this
  simpa using this
set_option maxRecDepth 100000 in
theorem empty_no (s : ByteArray) (h : 0 < s.size) : s.toList.isEmpty = false := by
  have := not_empty s
  rw [decide_eq_true h] at this
  simpa using this
end Go.Proofs.YthnimmagaocipaaGreatDoor
set_option linter.unusedVariables false
namespace Go.Proofs.YthnimmagaocipaaGreatDoor
open Go.ChangeShapes Go.WideShapes Go.ChangeAt Go.RowKit

set_option maxRecDepth 100000 in
/-- a small letter, at a place: its character -/
theorem rune_low (s : ByteArray) (pos : Nat) (h : pos < s.size) (hd : isDig s[pos] = false) (hc : idCh s[pos] = true) : Utf8.decode s pos = (s[pos].toNat, 1) ∧ runeDig (s[pos].toNat : Int) = false ∧ (97 : Int) ≤ (s[pos].toNat : Int) ∧ (s[pos].toNat : Int) ≤ 122 := by
  have h1 := (isDig_no _).1 hd
  have h2 : 48 ≤ s[pos].toNat ∧ s[pos].toNat ≤ 57 ∨ 97 ≤ s[pos].toNat ∧ s[pos].toNat ≤ 122 := of_decide_eq_true hc
  have h3 : 97 ≤ s[pos].toNat ∧ s[pos].toNat ≤ 122 := by omega
  exact ⟨decode_ascii s pos h (by omega), by simp [runeDig]; omega, by omega, by omega⟩
set_option maxRecDepth 100000 in
/-- no sign of an id, at a place: its character -/
theorem rune_none (s : ByteArray) (pos : Nat) (h : pos < s.size) (hc : idCh s[pos] = false) : runeDig ((Utf8.decode s pos).1 : Int) = false ∧ (((Utf8.decode s pos).1 : Int) < 97 ∨ 122 < ((Utf8.decode s pos).1 : Int)) := by
  have h2 : ¬ (48 ≤ s[pos].toNat ∧ s[pos].toNat ≤ 57 ∨ 97 ≤ s[pos].toNat ∧ s[pos].toNat ≤ 122) := of_decide_eq_false hc
  rcases Nat.lt_or_ge s[pos].toNat 128 with h1 | h1
  · rw [decode_ascii s pos h h1]
    exact ⟨by simp [runeDig]; omega, by show (s[pos].toNat : Int) < 97 ∨ 122 < (s[pos].toNat : Int); omega⟩
  · have := (decode_high s pos h h1).1
    exact ⟨by simp [runeDig]; omega, .inr (by omega)⟩
set_option maxRecDepth 100000 in
theorem idOk_end {s : ByteArray} {k : Nat} (hk : ¬ k < s.size) (h : (s.data.toList.take k).all idCh = true) : idOk s = decide (0 < s.size ∧ s.size ≤ 6) := by
  rw [take_end s k hk] at h
  rw [idOk_yes h]
  unfold inB
  exact decide_eq_decide.2 ⟨fun ⟨_, _⟩ => ⟨by omega, by omega⟩, fun ⟨_, _⟩ => ⟨by omega, by omega⟩⟩
set_option maxRecDepth 100000 in
set_option maxHeartbeats 1600000 in
theorem implHoldIdOk_any (s : ByteArray) (w : World) (hs : s.size ≤ maxLen) :
    Calls Tryz.prog 134 #[.string s] w fun e w' => e = .returned (.bool (idOk s)) ∧ Below w.heap.size w w' := by
  unfold maxLen at hs
  go_enter Tryz.func134, Tryz.ntmps134
  go_wp2
  go_loopw [2] (fun _ wr => ∃ k : Nat, k ≤ s.size ∧ wr = w.iter s k ∧ (s.data.toList.take k).all idCh = true) (fun _ wr => s.size - wr.iterPos w.heap.size)
  case atStart => exact ⟨0, Nat.zero_le _, rfl, rfl⟩
  case round =>
    obtain ⟨k, hk, rfl, ha0⟩ := hrel
    have ha := Lib.hid ha0
    clear ha0
    by_cases hlt : k < s.size
    · cases hc : idCh s[k]
      · obtain ⟨hr, hr2⟩ := rune_none s k hlt hc
        have HF := Lib.hid (idOk_not (all_not (p := idCh) hlt hc))
        have hnx : ∀ ty, (Instr.next (.pointer (some ⟨w.heap.size, 0, none⟩)) true ty).run Tryz.prog (w.iter s k) = _ := fun ty => run_next_any w s k ty hlt
        generalize hq : Utf8.decode s k = q at hnx hr hr2
        obtain ⟨r, wd⟩ := q
        clear hq
        simp only at hr hr2
        rcases hr2 with hr2 | hr2
        · go_wp2_with (go_at_call 141; refine (isDigit_any _ _).mono ?_; rintro e w' ⟨rfl, rfl⟩)
          go_ret
          exact ⟨ret_bool HF.out.symm, below_iter _ _ _⟩
        · have hr3 : ¬ (r : Int) < 97 := by omega
          go_wp2_with (go_at_call 141; refine (isDigit_any _ _).mono ?_; rintro e w' ⟨rfl, rfl⟩)
          go_ret
          exact ⟨ret_bool HF.out.symm, below_iter _ _ _⟩
      · have hb := Lib.hid (all_step (p := idCh) hlt ha.out hc)
        have hnx : ∀ ty, (Instr.next (.pointer (some ⟨w.heap.size, 0, none⟩)) true ty).run Tryz.prog (w.iter s k) = _ := fun ty => run_next_any w s k ty hlt
        cases hd : isDig s[k]
        · obtain ⟨hdec, hr, hr2, hr3⟩ := rune_low s k hlt hd hc
          rw [hdec] at hnx
          clear hdec hd hc
          go_wp2_with (go_at_call 141; refine (isDigit_any _ _).mono ?_; rintro e w' ⟨rfl, rfl⟩)
          go_roundw
          case rel => exact ⟨k + 1, by omega, rfl, hb.out⟩
          case measure => simp <;> omega
        · obtain ⟨hdec, hr⟩ := rune_dig s k hlt hd
          rw [hdec] at hnx
          clear hdec hd hc
          go_wp2_with (go_at_call 141; refine (isDigit_any _ _).mono ?_; rintro e w' ⟨rfl, rfl⟩)
          go_roundw
          case rel => exact ⟨k + 1, by omega, rfl, hb.out⟩
          case measure => simp <;> omega
    · have HV := Lib.hid (idOk_end hlt ha.out)
      have hnx : ∀ ty, (Instr.next (.pointer (some ⟨w.heap.size, 0, none⟩)) true ty).run Tryz.prog (w.iter s k) = _ := fun ty => run_next_end w s k ty hlt
      by_cases h0 : 0 < s.size
      · have hE := empty_no s h0
        go_wp2
        go_ret
        exact ⟨ret_bool (by rw [HV.out]; exact decide_eq_decide.2 ⟨fun _ => ⟨h0, by omega⟩, fun _ => by omega⟩), below_iter _ _ _⟩
      · have hE := empty_yes s h0
        go_wp2
        go_ret
        exact ⟨ret_bool (by rw [HV.out]; exact (decide_eq_false (fun h => h0 h.1)).symm), below_iter _ _ _⟩
set_option maxRecDepth 100000 in
set_option maxHeartbeats 1600000 in
theorem implHoldOk_any (x : HoldD) (w : World) (hs : x.1.size ≤ maxLen) :
    Calls Tryz.prog 119 #[.agg #[.string x.1, .int .i64 x.2.1, .int .i64 x.2.2]] w fun e w' => e = .returned (.bool (holdOk x)) ∧ Below w.heap.size w w' := by
  obtain ⟨id, am, du⟩ := x
  have HI := Lib.hid (fun w => implHoldIdOk_any id w hs)
  have HT := Lib.hid (fun w => implTime_any du w)
  have HD : Hid (holdOk (id, am, du) = (idOk id && (inB am 1 9007199254740992 && timeB du))) := Lib.hid rfl
  have HA1 : Hid (inB am 1 9007199254740992 = (decide (1 ≤ am) && decide (am ≤ 9007199254740992))) := Lib.hid (Bool.decide_and ..)
  clear hs
  generalize idOk id = b1 at HI HD
  generalize timeB du = b3 at HT HD
  obtain ⟨W, hW⟩ : ∃ W, W = w.alloc (.cells #[.string id, .int .i64 am, .int .i64 du] 104) := ⟨_, rfl⟩
  have b0 : bk W w.heap.size 104 [.string id, .int .i64 am, .int .i64 du] := by rw [hW]; exact bk.new w _ _
  have HB0 : Hid (Below w.heap.size w W) := Lib.hid (by rw [hW]; exact (Below.refl _ _).alloc (Nat.le_refl _) _)
  have z0 := b0.lt
  go_enter Tryz.func119, Tryz.ntmps119
  go_upto_region 1 with fail
  rw [← hW]
  clear hW
  obtain ⟨p0, p1, p2⟩ := b0.cells3
  go_wp2_with fail
  refine (HI.out _).mono ?_
  rintro e w1 ⟨rfl, hb1⟩
  have HB1 : Hid (Below w.heap.size w w1) := Lib.hid (HB0.out.trans (hb1.mono (by omega)))
  replace b0 := b0.below hb1 z0
  clear hb1 p0 p1 p2
  obtain ⟨p0, p1, p2⟩ := b0.cells3
  clear b0
  cases b1
  · have HV : Hid (holdOk (id, am, du) = false) := Lib.hid (by rw [HD.out]; rfl)
    go_wp2
    go_ret
    exact ⟨ret_bool HV.out.symm, HB1.out⟩
  by_cases h1 : 1 ≤ am
  · by_cases h2 : am ≤ 9007199254740992
    · have HV : Hid (holdOk (id, am, du) = b3) := Lib.hid (by rw [HD.out, HA1.out, decide_eq_true h1, decide_eq_true h2]; rfl)
      go_wp2_with fail
      refine (HT.out _).mono ?_
      rintro e w2 ⟨rfl, rfl⟩
      go_wp2
      go_ret
      exact ⟨ret_bool HV.out.symm, HB1.out⟩
    · have HV : Hid (holdOk (id, am, du) = false) := Lib.hid (by rw [HD.out, HA1.out, decide_eq_false h2, Bool.and_false]; rfl)
      go_wp2
      go_ret
      exact ⟨ret_bool HV.out.symm, HB1.out⟩
  · have HV : Hid (holdOk (id, am, du) = false) := Lib.hid (by rw [HD.out, HA1.out, decide_eq_false h1]; rfl)
    go_wp2
    go_ret
    exact ⟨ret_bool HV.out.symm, HB1.out⟩
set_option maxRecDepth 100000 in
theorem implLive_any (x : HoldD) (now : Int) (w : World) :
    Calls Tryz.prog 130 #[.agg #[.string x.1, .int .i64 x.2.1, .int .i64 x.2.2], .int .i64 now] w fun e w' => e = .returned (.bool (live now x)) ∧ Below w.heap.size w w' := by
  have HB0 : Hid (Below w.heap.size w (w.alloc (.cells #[.string x.1, .int .i64 x.2.1, .int .i64 x.2.2] 104))) := Lib.hid ((Below.refl _ _).alloc (Nat.le_refl _) _)
  go_enter Tryz.func130, Tryz.ntmps130
  go_wp2
  go_ret
  exact ⟨rfl, HB0.out⟩
end Go.Proofs.YthnimmagaocipaaGreatDoor
set_option linter.unusedVariables false
namespace Go.Proofs.YthnimmagaocipaaGreatDoor
open Go.ChangeShapes Go.WideShapes Go.ChangeAt Go.RowKit

set_option maxRecDepth 100000 in
set_option maxHeartbeats 1600000 in
theorem implHoldsOk_any (hi : Nat) (v : Value) (l : List HoldD) (w : World) (hn : l.length ≤ 1048576) (hs : ∀ x ∈ l, x.1.size ≤ maxLen) (h : HoldsR.rd hi w [v] l) (hh : hi ≤ w.heap.size) :
    Calls Tryz.prog 95 #[v] w fun e w' => e = .returned (.bool (holdsOk l)) ∧ Below w.heap.size w w' := by
  obtain ⟨A, c, rfl, hc, h⟩ := holds_rd h
  have HR := Lib.hid h
  have HS := Lib.hid hs
  clear h hs
  by_cases hbig : 4 < l.length
  · have HV : Hid (holdsOk l = false) := Lib.hid (by unfold holdsOk; rw [decide_eq_false (by omega), Bool.and_false])
    have g0 : (4 : Int) < (l.length : Int) := by omega
    go_enter Tryz.func95, Tryz.ntmps95
    go_wp2
    go_ret
    exact ⟨ret_bool HV.out.symm, Below.refl _ _⟩
  have g0 : ¬ (4 : Int) < (l.length : Int) := by omega
  have HST : Hid (Value.string ⟨#[]⟩ = .string (befH l 0)) := Lib.hid rfl
  go_enter Tryz.func95, Tryz.ntmps95
  go_wp2
  go_loopw [3, 11] (fun bv iv wr => ∃ i : Nat, i ≤ l.length ∧ iv = .int .i64 i ∧ bv = .string (befH l i) ∧ Hid ((List.range i).all (holdAtOk l) = true) ∧ Hid (Below w.heap.size w wr) ∧ w.heap.size ≤ wr.heap.size) (fun _ iv _ => l.length - (intOf iv).toNat)
  case atStart => exact ⟨0, Nat.zero_le _, rfl, HST.out, Lib.hid rfl, Lib.hid (Below.refl _ _), Nat.le_refl _⟩
  case round =>
    obtain ⟨i, hi', rfl, rfl, HN, HB, hz⟩ := hrel
    by_cases hin : i < l.length
    · obtain ⟨x, hx⟩ : ∃ x, l[i]? = some x := ⟨_, List.getElem?_eq_getElem hin⟩
      obtain ⟨b, off, rfl, hbl, c0, c1, c2⟩ := HR.out i x hx
      have HXD := Lib.hid (holdAt_bef hx)
      have HNX := Lib.hid (befH_next hx)
      have hxs := HS.out x (List.mem_of_getElem? hx)
      have HOK := Lib.hid (fun W => implHoldOk_any x W hxs)
      have HNO := Lib.hid (fun h => holds_ok_not (l := l) hin h)
      have HSN := Lib.hid (fun h => range_snoc (l := l) HN.out h)
      clear hx
      generalize befH l i = bf at HXD
      generalize holdOk x = hk at HXD HOK
      have c0 := (HB.out.cell (p := ⟨b, off + i * 3, none⟩) (show b < w.heap.size by omega)).trans c0
      have c1 := (HB.out.cell (p := ⟨b, off + i * 3 + 1, none⟩) (show b < w.heap.size by omega)).trans c1
      have c2 := (HB.out.cell (p := ⟨b, off + i * 3 + 2, none⟩) (show b < w.heap.size by omega)).trans c2
      have g1 : (i : Int) < (l.length : Int) := by omega
      have g2 : 0 ≤ (i : Int) := by omega
      go_upto_region 7 with fail
      obtain ⟨W, hW⟩ : ∃ W, W = wr.alloc (.cells #[.string x.1, .int .i64 x.2.1, .int .i64 x.2.2] 104) := ⟨_, rfl⟩
      have b0 : bk W wr.heap.size 104 [.string x.1, .int .i64 x.2.1, .int .i64 x.2.2] := by rw [hW]; exact bk.new wr _ _
      have HB0 : Hid (Below w.heap.size w W) := Lib.hid (by rw [hW]; exact HB.out.alloc hz _)
      have z0 := b0.lt
      rw [← hW]
      clear hW c0 c1 c2
      obtain ⟨p0, p1, p2⟩ := b0.cells3
      go_wp2_with fail
      refine (HOK.out _).mono ?_
      rintro e w1 ⟨rfl, hb1⟩
      have HB1 : Hid (Below w.heap.size w w1) := Lib.hid (HB0.out.trans (hb1.mono (by omega)))
      have z1 := hb1.size
      replace b0 := b0.below hb1 z0
      clear hb1 p0 p1 p2
      obtain ⟨p0, p1, p2⟩ := b0.cells3
      clear b0
      cases hk
      · have HF : Hid (holdsOk l = false) := Lib.hid (HNO.out (by rw [HXD.out]; rfl))
        go_wp2
        go_ret
        exact ⟨ret_bool HF.out.symm, HB1.out⟩
      rcases str_cmp x.1 bf with ⟨-, h2, h3, h4⟩ | ⟨-, h2⟩ | ⟨-, h2, h3, h4⟩
      · have HF : Hid (holdsOk l = false) := Lib.hid (HNO.out (by rw [HXD.out, h3]; rfl))
        have h5 : Op.bytesLess x.1.toList bf.toList = true := h2
        clear h2 h3 h4
        go_wp2
        go_ret
        exact ⟨ret_bool HF.out.symm, HB1.out⟩
      · have HF : Hid (holdsOk l = false) := Lib.hid (HNO.out (by rw [HXD.out, h2, strLt_irrefl]; rfl))
        have h5 : (x.1.toList == bf.toList) = true := by rw [h2]; simp
        clear h2
        go_wp2
        go_ret
        exact ⟨ret_bool HF.out.symm, HB1.out⟩
      · have HT : Hid ((List.range (i + 1)).all (holdAtOk l) = true) := Lib.hid (HSN.out (by rw [HXD.out, h2]; rfl))
        have h5 : Op.bytesLess x.1.toList bf.toList = false := h3
        have h6 : (x.1.toList == bf.toList) = false := by simpa using fun e => h4 (str_eq_list.1 e)
        have h7 : ¬ x.1.toList = bf.toList := fun e => h4 (str_eq_list.1 e)
        clear h2 h3 h4
        go_wp2
        go_roundw
        case rel => exact ⟨i + 1, by omega, by go_num, by rw [HNX.out], HT, HB1, by omega⟩
        case measure => simp [intOf] <;> omega
    · obtain rfl : i = l.length := by omega
      have HV : Hid (holdsOk l = true) := Lib.hid (by rw [holds_ok_end HN.out]; exact decide_eq_true (by omega))
      go_wp2
      go_ret
      exact ⟨ret_bool HV.out.symm, HB.out⟩
end Go.Proofs.YthnimmagaocipaaGreatDoor
set_option linter.unusedVariables false
namespace Go.Proofs.YthnimmagaocipaaGreatDoor
open Go.ChangeShapes Go.WideShapes Go.ChangeAt Go.RowKit

set_option maxRecDepth 100000 in
theorem setsAt_cells (us : List Value) : ∀ (w : World) (b o : Nat), w.setCells b o us = setsAt w b o us := by
  induction us with
  | nil => intro w b o; rfl
  | cons u us ih => intro w b o; exact ih _ b (o + 1)
set_option maxRecDepth 100000 in
/-- element i of a row laid anew -/
theorem filled.put {w : World} {b off k n i m : Nat} {E E' : Nat → List Value} (h : filled w b off k n m E) (hi : i < n) (hE : ∀ j, j < m → (E j).length = k) (hE' : (E' i).length = k) (hs : ∀ j, j < m → j ≠ i → E' j = E j) : filled (setsAt w b (off + i * k) (E' i)) b off k n m E' := by
  have hik := mul_step (k := k) hi
  refine ⟨setsAt_room _ _ _ _ _ _ h.room, fun j hj => ?_⟩
  by_cases e : j = i
  · subst e
    exact setsAt_at _ _ _ _ (h.room.sub (by omega) (by omega))
  · rw [hs j hj e]
    have hl := hE j hj
    rcases Nat.lt_or_gt_of_ne e with h1 | h1
    · have hjk := mul_step (k := k) h1
      exact setsAt_far _ _ _ _ _ _ (h.at_ j hj) (.inl (by omega))
    · have hjk := mul_step (k := k) h1
      exact setsAt_far _ _ _ _ _ _ (h.at_ j hj) (.inr (by omega))
set_option maxRecDepth 100000 in
/-- its first elements, where only what is behind them was laid anew -/
theorem filled.ahead {w : World} {b k n i : Nat} {E : Nat → List Value} (h : filled w b 0 k n n E) (hi : i ≤ n) (hE : ∀ j, j < n → (E j).length = k) (us : List Value) : filled (setsAt w b (i * k) us) b 0 k i i E := by
  have hle : i * k ≤ n * k := Nat.mul_le_mul_right k hi
  refine ⟨(setsAt_room _ _ _ _ _ _ h.room).sub (Nat.le_refl _) (by omega), fun j hj => ?_⟩
  have hjk := mul_step (k := k) hj
  exact setsAt_far _ _ _ _ _ _ (h.at_ j (by omega)) (.inl (by rw [hE j (by omega)]; omega))
section
variable {P : Program} {ops : Array Oper} {rest : List Oper} {o : Oper} {a : Act} {Q : Exit → Act → World → Prop}
set_option maxRecDepth 100000 in
/-- clear(s[i:]) -/
theorem wpList_clear_tail {α : Type} (enc : α → List Value) (k : Nat) (hk : ∀ x, (enc x).length = k) (hone : ∀ x, ∀ u ∈ enc x, u.oneCell' = true) (hgd : o.guard = none) (x : Operand) (t : TypeId)
    (ho : o.op = .call { callee := .builtin .clear, args := #[x], argTypes := #[t] }) (e : TypeId) (hu : P.underlying t = some (.slice e)) (zs : Array Value) (hinfo : (P.info? e).map (fun i => (i.zero.map (·.cells), i.size)) = some (some zs, k)) (z : α) (hz : zs.toList = enc z)
    (W : World) (g off m c' : Nat) (hroom : roomL W g off (m * k)) (hm0 : 0 < m) (hx : a.eval x = .slice (some ⟨g, off, none⟩) m c')
    (h : wpList P ops Q rest (a.put o.dst (.tuple #[])) (setsAt W g off ((List.replicate m z).flatMap enc))) : wpList P ops Q (o :: rest) a W := by
  obtain ⟨i, hi, hxx⟩ := Option.map_eq_some_iff.1 hinfo
  simp only [Prod.mk.injEq] at hxx
  obtain ⟨hz1, hsize⟩ := hxx
  obtain ⟨zz, hzz, hzc⟩ := Option.map_eq_some_iff.1 hz1
  have hzf := zero_flat hk zs z hz m
  have hl : ((List.replicate m z).flatMap enc).length = m * k := by rw [flat_len hk, List.length_replicate]
  have hst := run_storeCells_cells (P := P) g off ((List.replicate m z).flatMap enc) 0 W (fun j hj => by rw [hl] at hj; obtain ⟨⟨u, hu⟩, -⟩ := hroom j hj; rw [Nat.add_zero, hu]; rfl) (fun j hj => by rw [hl] at hj; rw [Nat.add_zero]; exact (hroom j hj).2) (fun v hv => by obtain ⟨x, -, hx⟩ := List.mem_flatMap.1 hv; exact hone x v hx)
  rw [Nat.add_zero, setsAt_cells] at hst
  obtain ⟨p, rfl⟩ : ∃ p, m = p + 1 := ⟨m - 1, by omega⟩
  generalize (List.replicate (p + 1) z).flatMap enc = us at hst hzf h
  refine wpList_plain hgd fun K hK => ?_
  have hrun : (Builtin.clear_ #[t] o.type #[.slice (some ⟨g, off, none⟩) (p + 1) c']).run P W = .ok (.tuple #[]) (setsAt W g off us) := by
    simp [Builtin.clear_, run_underlying hu, zeroValue, typeInfo, hi, hzz, hzc, hzf, hst]
  unfold Oper.wp
  simp [execOp, ho, resolve, invoke, builtin, hx, hrun]
  exact hK _ _ h
end
end Go.Proofs.YthnimmagaocipaaGreatDoor
set_option linter.unusedVariables false
namespace Go.Proofs.YthnimmagaocipaaGreatDoor
open Go.ChangeShapes Go.WideShapes Go.ChangeAt Go.RowKit

/-- a row of holds of the call's own -/
def holdsOwn (l : List HoldD) (w : World) (e : Ending) (w' : World) : Prop := ∃ A c, e = .returned (.slice A l.length c) ∧ owE 104 3 hCells w.heap.size w' (.slice A l.length c) l ∧ Below w.heap.size w w'
set_option maxRecDepth 100000 in
theorem holds_at {hi : Nat} {w : World} {A : Option Addr} {n c : Nat} {l : List HoldD} (h : HoldsR.rd hi w [.slice A n c] l) : ∀ (j : Nat) (y : HoldD), l[j]? = some y → ∃ b off, A = some ⟨b, off, none⟩ ∧ b < hi ∧ atL w b (off + j * 3) (hCells y) := by
  intro j y hy
  obtain ⟨A', c', hv, -, hr⟩ := holds_rd h
  simp only [Value.slice.injEq] at hv
  obtain ⟨rfl, -, -⟩ := hv
  obtain ⟨b, off, e, hb, q0, q1, q2⟩ := hr j y hy
  refine ⟨b, off, e, hb, fun t u hu => ?_⟩
  match t, hu with
  | 0, hu => cases hu; exact q0
  | 1, hu => cases hu; exact q1
  | 2, hu => cases hu; exact q2
  | n + 3, hu => simp [hCells] at hu
set_option maxRecDepth 100000 in
set_option maxHeartbeats 1600000 in
theorem cloneHolds_any (hi : Nat) (v : Value) (l : List HoldD) (w : World) (hn : l.length ≤ 1048576) (h : HoldsR.rd hi w [v] l) (hh : hi ≤ w.heap.size) :
    Calls Tryz.prog 128 #[v] w (holdsOwn l w) := by
  obtain ⟨A, c, rfl, -, -⟩ := holds_rd h
  have hS := holds_at h
  have HS : Hid (∀ V, Below w.heap.size w V → ∀ (j : Nat) (y : HoldD), l[j]? = some y → ∃ b off, A = some ⟨b, off, none⟩ ∧ atL V b (off + j * 3) (hCells y)) := Lib.hid fun V hV j y hy => by
    obtain ⟨b, off, e, hb, ha⟩ := hS j y hy
    exact ⟨b, off, e, fun t u hu => (hV.cell (p := ⟨b, _, none⟩) (show b < w.heap.size by omega)).trans (ha t u hu)⟩
  have q33 : ∀ (w : World) (a : Option Addr) (n c n' c' : Nat), (binOp .eql 46 (.slice a n c) (.slice none n' c')).run Tryz.prog w = .ok (.bool a.isNone) w := fun w a n c n' c' => Lib.run_eql_slice_nil w _ _ a n c n' c' Tryz.underlying46
  clear h
  cases A with
  | none =>
    obtain rfl : l = [] := by
      cases l with
      | nil => rfl
      | cons y l => obtain ⟨b, off, e, -⟩ := hS 0 y rfl; cases e
    clear hS
    go_enter Tryz.func128, Tryz.ntmps128
    go_wp2
    go_ret
    exact ⟨none, 0, rfl, owE_none _ _ _ _ _, Below.refl _ _⟩
  | some ad =>
    clear hS
    go_enter Tryz.func128, Tryz.ntmps128
    go_wp2_with (at_builtin; refine app_rows hCells 3 (fun _ => rfl) (by decide) hCells_one 46 104 #[.string ⟨#[]⟩, .int .i64 0, .int .i64 0] 32 Tryz.underlying46 infoHold rfl _ _ rfl rfl w.heap.size (w.alloc (.cells #[] 104)) _ [] l (some ad) c (by rfl) (by rfl) (owE_empty _ _ _ _ w (Nat.le_refl _)) (HS.out _ ((Below.refl _ _).alloc (Nat.le_refl _) _)) (by unfold maxLen; simp; omega) (by simp; omega) (by simp) ?_)
    intro A1 c1 w1 ho1 hg1 hb1
    have HB1 : Hid (Below w.heap.size w w1) := Lib.hid (((Below.refl w.heap.size w).alloc (Nat.le_refl _) _).trans hb1)
    have HO : Hid (owE 104 3 hCells w.heap.size w1 (.slice A1 l.length c1) l) := Lib.hid (by simpa using ho1)
    clear ho1 hg1 hb1
    go_wp2
    go_ret
    exact ⟨A1, c1, by simp, HO.out, HB1.out⟩
/-- what a function says of a hold, wherever block B holds cs -/
def saysH (g : Nat) (lb : Array Value) (B : Nat) (t : TypeId) (cs : List Value) (p : HoldD → Bool) : Prop :=
  ∀ (W : World) (x : HoldD), bk W B t cs → Calls Tryz.prog g (#[.agg #[.string x.1, .int .i64 x.2.1, .int .i64 x.2.2]] ++ lb) W fun e w' => e = .returned (.bool (p x)) ∧ Below W.heap.size W w'
def findP (p : HoldD → Bool) (l : List HoldD) : Int := match l.findIdx? p with | some i => (i : Int) | none => -1
set_option maxRecDepth 100000 in
theorem findP_none {p : HoldD → Bool} {l : List HoldD} (h : ∀ x ∈ l, p x = false) : findP p l = -1 := by
  unfold findP
  rw [List.findIdx?_eq_none_iff.2 h]
set_option maxRecDepth 100000 in
theorem findP_some {p : HoldD → Bool} {l : List HoldD} {i : Nat} {x : HoldD} (hx : l[i]? = some x) (he : p x = true) (h : ∀ y ∈ l.take i, p y = false) : findP p l = (i : Int) := by
  obtain ⟨hi, rfl⟩ := List.getElem?_eq_some_iff.1 hx
  have h1 : l.findIdx? p = some i := by
    rw [List.findIdx?_eq_some_iff_getElem]
    refine ⟨hi, he, fun j hj => ?_⟩
    have hm : l[j] ∈ l.take i := by rw [List.mem_take_iff_getElem]; exact ⟨j, by omega, rfl⟩
    simpa using h _ hm
  unfold findP
  rw [h1]
set_option maxRecDepth 100000 in
theorem take_all_next {p : HoldD → Bool} {l : List HoldD} {i : Nat} {x : HoldD} (hx : l[i]? = some x) (he : p x = false) (h : ∀ y ∈ l.take i, p y = false) : ∀ y ∈ l.take (i + 1), p y = false := by
  obtain ⟨h5, h6⟩ := List.getElem?_eq_some_iff.1 hx
  rw [List.take_succ_eq_append_getElem h5, h6]
  intro y hy
  rcases List.mem_append.1 hy with hy | hy
  · exact h y hy
  · rw [List.mem_singleton.1 hy]; exact he
set_option maxRecDepth 100000 in
set_option maxHeartbeats 1600000 in
theorem indexHolds_any (g : Nat) (lb : Array Value) (B : Nat) (t : TypeId) (cs : List Value) (p : HoldD → Bool) (hi : Nat) (v : Value) (l : List HoldD) (w : World) (hp : saysH g lb B t cs p) (eg : ∀ args w, (callFunc g args).run Tryz.prog w = .ok (.enter g args) w) (hbk : bk w B t cs) (hn : l.length ≤ 1048576) (h : HoldsR.rd hi w [v] l) (hh : hi ≤ w.heap.size) :
    Calls Tryz.prog 140 #[v, .func (.func g) #[] lb] w fun e w' => e = .returned (.int .i64 (findP p l)) ∧ Below w.heap.size w w' := by
  obtain ⟨A, c, rfl, hc, h⟩ := holds_rd h
  have HR := Lib.hid h
  have HP := Lib.hid hp
  have HK := Lib.hid hbk
  have hBw := hbk.lt
  clear h hp hbk
  go_enter Tryz.func140, Tryz.ntmps140
  go_wp2
  go_loopw [8] (fun iv wr => ∃ i : Nat, i ≤ l.length ∧ iv = .int .i64 i ∧ Hid (∀ y ∈ l.take i, p y = false) ∧ Hid (Below w.heap.size w wr) ∧ w.heap.size ≤ wr.heap.size) (fun iv _ => l.length - (intOf iv).toNat)
  case atStart => exact ⟨0, Nat.zero_le _, rfl, Lib.hid (by simp), Lib.hid (Below.refl _ _), Nat.le_refl _⟩
  case round =>
    obtain ⟨i, hi', rfl, HN, HB, hz⟩ := hrel
    by_cases hin : i < l.length
    · obtain ⟨x, hx⟩ : ∃ x, l[i]? = some x := ⟨_, List.getElem?_eq_getElem hin⟩
      obtain ⟨b, off, rfl, hbl, c0, c1, c2⟩ := HR.out i x hx
      have hcall := HP.out wr x (HK.out.below HB.out hBw)
      have HYES := Lib.hid (fun he => findP_some hx he HN.out)
      have HNO := Lib.hid (fun he => take_all_next (p := p) hx he HN.out)
      clear hx
      have c0 := (HB.out.cell (p := ⟨b, off + i * 3, none⟩) (show b < w.heap.size by omega)).trans c0
      have c1 := (HB.out.cell (p := ⟨b, off + i * 3 + 1, none⟩) (show b < w.heap.size by omega)).trans c1
      have c2 := (HB.out.cell (p := ⟨b, off + i * 3 + 2, none⟩) (show b < w.heap.size by omega)).trans c2
      have g1 : (i : Int) < (l.length : Int) := by omega
      have g2 : 0 ≤ (i : Int) := by omega
      generalize p x = px at hcall HYES HNO
      have HC := Lib.hid hcall
      clear hcall
      go_wp2_with fail
      refine HC.out.mono ?_
      rintro e w1 ⟨rfl, hb1⟩
      have z1 := hb1.size
      have HB1 : Hid (Below w.heap.size w w1) := Lib.hid (HB.out.trans (hb1.mono (by omega)))
      clear hb1 c0 c1 c2
      cases px
      · have HN2 := Lib.hid (HNO.out rfl)
        go_wp2
        go_roundw
        case rel => exact ⟨i + 1, by omega, by go_num, HN2, HB1, by omega⟩
        case measure => simp [intOf] <;> omega
      · have HV := Lib.hid (HYES.out rfl)
        go_wp2
        go_ret
        exact ⟨ret_int HV.out.symm, HB1.out⟩
    · obtain rfl : i = l.length := by omega
      have HV : Hid (findP p l = -1) := Lib.hid (findP_none (by have := HN.out; rwa [List.take_length] at this))
      go_wp2
      go_ret
      exact ⟨ret_int HV.out.symm, HB.out⟩
end Go.Proofs.YthnimmagaocipaaGreatDoor
set_option linter.unusedVariables false
namespace Go.Proofs.YthnimmagaocipaaGreatDoor
open Go.ChangeShapes Go.WideShapes Go.ChangeAt Go.RowKit

/-- the holds that stay -/
def staysP (p : HoldD → Bool) (l : List HoldD) : List HoldD := l.filter fun x => !p x
set_option maxRecDepth 100000 in
theorem stays_all {p : HoldD → Bool} {l : List HoldD} (h : ∀ x ∈ l, p x = false) : staysP p l = l := List.filter_eq_self.2 fun x hx => by rw [h x hx]; rfl
set_option maxRecDepth 100000 in
theorem stays_next {p : HoldD → Bool} {l : List HoldD} {j : Nat} {x : HoldD} (hx : l[j]? = some x) : staysP p (l.take (j + 1)) = if p x = true then staysP p (l.take j) else staysP p (l.take j) ++ [x] := by
  obtain ⟨hj, rfl⟩ := List.getElem?_eq_some_iff.1 hx
  unfold staysP
  rw [List.take_succ_eq_append_getElem hj, List.filter_append]
  cases hp : p l[j] <;> simp [hp]
set_option maxRecDepth 100000 in
theorem findP_cases (p : HoldD → Bool) (l : List HoldD) : (findP p l = -1 ∧ ∀ x ∈ l, p x = false) ∨ ∃ (i : Nat) (x : HoldD), l[i]? = some x ∧ findP p l = (i : Int) ∧ p x = true ∧ ∀ y ∈ l.take i, p y = false := by
  unfold findP
  cases h : l.findIdx? p with
  | none => exact .inl ⟨rfl, List.findIdx?_eq_none_iff.1 h⟩
  | some i =>
    obtain ⟨hi, h1, h2⟩ := List.findIdx?_eq_some_iff_getElem.1 h
    refine .inr ⟨i, l[i], List.getElem?_eq_getElem hi, rfl, h1, fun y hy => ?_⟩
    obtain ⟨k, hk, rfl⟩ := List.mem_take_iff_getElem.1 hy
    have := h2 k (by omega)
    simpa using this
/-- n holds in block g, the first i of them those of l's first j that stay, from j on l's own -/
def cutH (p : HoldD → Bool) (l : List HoldD) (g i j : Nat) (w : World) : Prop := ∃ L : List HoldD, L.length = l.length ∧ L.take i = staysP p (l.take j) ∧ L.drop j = l.drop j ∧ i < j ∧ j ≤ l.length ∧ filled w g 0 3 l.length l.length fun k => hCells (L.getD k noH)
set_option maxRecDepth 100000 in
theorem cutH.keep {p : HoldD → Bool} {l : List HoldD} {g i j : Nat} {w w' : World} (h : cutH p l g i j w) (hk : w'.heap[g]? = w.heap[g]?) : cutH p l g i j w' := by
  obtain ⟨L, h1, h2, h3, h4, h5, h6⟩ := h
  exact ⟨L, h1, h2, h3, h4, h5, h6.keep hk⟩
set_option maxRecDepth 100000 in
theorem cutH.lt {p : HoldD → Bool} {l : List HoldD} {g i j : Nat} {w : World} (h : cutH p l g i j w) : i < j ∧ j ≤ l.length := by
  obtain ⟨L, h1, h2, h3, h4, h5, h6⟩ := h
  exact ⟨h4, h5⟩
set_option maxRecDepth 100000 in
theorem cutH.start {p : HoldD → Bool} {l : List HoldD} {g i : Nat} {w : World} {x : HoldD} (hx : l[i]? = some x) (he : p x = true) (h : ∀ y ∈ l.take i, p y = false) (hr : filled w g 0 3 l.length l.length fun k => hCells (l.getD k noH)) : cutH p l g i (i + 1) w := by
  have hi := (List.getElem?_eq_some_iff.1 hx).1
  refine ⟨l, rfl, ?_, rfl, by omega, by omega, hr⟩
  rw [stays_next hx, if_pos he, stays_all h]
set_option maxRecDepth 100000 in
/-- the next element, as it lies -/
theorem cutH.next {p : HoldD → Bool} {l : List HoldD} {g i j : Nat} {w : World} (h : cutH p l g i j w) {x : HoldD} (hx : l[j]? = some x) : w.cell? ⟨g, j * 3, none⟩ = some (.string x.1) ∧ w.cell? ⟨g, j * 3 + 1, none⟩ = some (.int .i64 x.2.1) ∧ w.cell? ⟨g, j * 3 + 2, none⟩ = some (.int .i64 x.2.2) := by
  obtain ⟨L, h1, h2, h3, h4, h5, h6⟩ := h
  have hj := (List.getElem?_eq_some_iff.1 hx).1
  have e : L[j]? = some x := by
    have e1 : L[j]? = (L.drop j)[0]? := by rw [List.getElem?_drop, Nat.add_zero]
    rw [e1, h3, List.getElem?_drop, Nat.add_zero, hx]
  have ha := h6.at_ j hj
  have e2 : L.getD j noH = x := by rw [List.getD_eq_getElem?_getD, e]; rfl
  rw [e2, Nat.zero_add] at ha
  exact ⟨ha 0 _ rfl, ha 1 _ rfl, ha 2 _ rfl⟩
set_option maxRecDepth 100000 in
/-- the place that is written, as it lies -/
theorem cutH.place {p : HoldD → Bool} {l : List HoldD} {g i j : Nat} {w : World} (h : cutH p l g i j w) : ∀ t, t < 3 → (∃ u, w.cell? ⟨g, i * 3 + t, none⟩ = some u) ∧ w.frozen? ⟨g, i * 3 + t, none⟩ = false := by
  obtain ⟨L, h1, h2, h3, h4, h5, h6⟩ := h
  intro t ht
  have := h6.cells (show i < l.length by omega) t ht
  rwa [Nat.zero_add] at this
set_option maxRecDepth 100000 in
theorem cutH.skip {p : HoldD → Bool} {l : List HoldD} {g i j : Nat} {w : World} (h : cutH p l g i j w) {x : HoldD} (hx : l[j]? = some x) (hp : p x = true) : cutH p l g i (j + 1) w := by
  obtain ⟨L, h1, h2, h3, h4, h5, h6⟩ := h
  have hj := (List.getElem?_eq_some_iff.1 hx).1
  refine ⟨L, h1, ?_, ?_, by omega, by omega, h6⟩
  · rw [stays_next hx, if_pos hp]; exact h2
  · rw [← List.drop_drop, h3, List.drop_drop]
set_option maxRecDepth 100000 in
theorem cutH.stay {p : HoldD → Bool} {l : List HoldD} {g i j : Nat} {w : World} (h : cutH p l g i j w) {x : HoldD} (hx : l[j]? = some x) (hp : p x = false) : cutH p l g (i + 1) (j + 1) (setsAt w g (i * 3) (hCells x)) := by
  obtain ⟨L, h1, h2, h3, h4, h5, h6⟩ := h
  have hj := (List.getElem?_eq_some_iff.1 hx).1
  have hi : i < L.length := by omega
  refine ⟨L.set i x, by simpa using h1, ?_, ?_, by omega, by omega, ?_⟩
  · rw [stays_next hx, if_neg (by rw [hp]; exact Bool.false_ne_true), ← h2, List.take_succ_eq_append_getElem (by simpa using hi), List.getElem_set_self]
    congr 1
    rw [List.take_set_of_le (Nat.le_refl _)]
  · rw [List.drop_set_of_lt (by omega), ← List.drop_drop, h3, List.drop_drop]
  · have e : hCells ((L.set i x).getD i noH) = hCells x := by rw [List.getD_eq_getElem?_getD, List.getElem?_set_self hi]; rfl
    have := h6.put (E' := fun k => hCells ((L.set i x).getD k noH)) (show i < l.length by omega) (fun _ _ => rfl) rfl (fun j _ hne => by
      show hCells _ = hCells _
      rw [List.getD_eq_getElem?_getD, List.getD_eq_getElem?_getD, List.getElem?_set_ne (fun e => hne e.symm)])
    rw [Nat.zero_add] at this
    simp only [e] at this
    exact this
set_option maxRecDepth 100000 in
theorem cutH.tail {p : HoldD → Bool} {l : List HoldD} {g i j : Nat} {w : World} (h : cutH p l g i j w) : roomL w g (i * 3) ((l.length - i) * 3) := by
  obtain ⟨L, h1, h2, h3, h4, h5, h6⟩ := h
  exact h6.room.sub (by omega) (by omega)
set_option maxRecDepth 100000 in
theorem cutH.done {p : HoldD → Bool} {l : List HoldD} {g i : Nat} {w : World} (h : cutH p l g i l.length w) (us : List Value) : i = (staysP p l).length ∧ filled (setsAt w g (i * 3) us) g 0 3 i i fun k => hCells ((staysP p l).getD k noH) := by
  obtain ⟨L, h1, h2, h3, h4, h5, h6⟩ := h
  rw [List.take_length] at h2
  have e : i = (staysP p l).length := by rw [← h2, List.length_take]; omega
  have hf := h6.ahead (i := i) (by omega) (fun _ _ => rfl) us
  refine ⟨e, hf.room, fun k hk => ?_⟩
  have hk2 : (staysP p l).getD k noH = L.getD k noH := by rw [← h2, List.getD_eq_getElem?_getD, List.getD_eq_getElem?_getD, List.getElem?_take, if_pos hk]
  show atL _ _ _ (hCells _)
  rw [hk2]
  exact hf.at_ k hk
set_option maxRecDepth 100000 in
theorem infoHold2 : (Tryz.prog.info? 104).map (fun i => (i.zero.map (·.cells), i.size)) = some (some #[.string ⟨#[]⟩, .int .i64 0, .int .i64 0], 3) := by kernel_rfl
set_option maxRecDepth 100000 in
set_option maxHeartbeats 1600000 in
theorem deleteHolds_any (g0 : Nat) (lb : Array Value) (B : Nat) (t : TypeId) (cs : List Value) (p : HoldD → Bool) (A : Option Addr) (c : Nat) (l : List HoldD) (base : Nat) (w : World) (hp : saysH g0 lb B t cs p) (eg : ∀ args w, (callFunc g0 args).run Tryz.prog w = .ok (.enter g0 args) w) (hbk : bk w B t cs) (hB : B < base) (hn : l.length ≤ 1048576) (ho : owE 104 3 hCells base w (.slice A l.length c) l) (hbase : base ≤ w.heap.size) :
    Calls Tryz.prog 127 #[.slice A l.length c, .func (.func g0) #[] lb] w fun e w' => ∃ u, e = .returned u ∧ HoldsR.mine base w'.heap.size w' [u] (staysP p l) ∧ Below base w w' := by
  have HIX := Lib.hid (indexHolds_any g0 lb B t cs p w.heap.size _ l w hp eg hbk hn (owE_holds ho).rd (Nat.le_refl _))
  have HP := Lib.hid hp
  have HOW := Lib.hid ho
  have hBw := hbk.lt
  have HBK := Lib.hid hbk
  have hfi := ho.filled (fun _ => rfl) noH
  clear hp hbk ho
  rcases findP_cases p l with ⟨hv, hall⟩ | ⟨i0, x0, hx0, hv, hpx, hall⟩
  · have HST : Hid (staysP p l = l) := Lib.hid (stays_all hall)
    rw [hv] at HIX
    clear hfi hall hv
    go_enter Tryz.func127, Tryz.ntmps127
    go_wp2_with fail
    refine HIX.out.mono ?_
    rintro e w1 ⟨rfl, hb1⟩
    have HB1 : Hid (Below w.heap.size w w1) := Lib.hid hb1
    have HO1 := Lib.hid (HOW.out.below hb1 (Nat.le_refl _))
    clear hb1
    go_wp2
    go_ret
    exact ⟨_, rfl, by rw [HST.out]; exact owE_holds HO1.out, HB1.out.mono hbase⟩
  obtain ⟨g, rfl, hc, hgb, hgw, hfl⟩ : ∃ g, A = some ⟨g, 0, none⟩ ∧ l.length ≤ c ∧ base ≤ g ∧ g < w.heap.size ∧ filled w g 0 3 l.length l.length fun j => hCells (l.getD j noH) := by
    rcases hfi with ⟨rfl, -⟩ | ⟨b, c', e, h1, h2, h3, h4⟩
    · simp at hx0
    · simp only [Value.slice.injEq, true_and] at e
      obtain ⟨rfl, rfl⟩ := e
      exact ⟨b, rfl, h1, h2, h3, h4⟩
  have hi0 : i0 < l.length := (List.getElem?_eq_some_iff.1 hx0).1
  have HC0 := Lib.hid (cutH.start hx0 hpx hall hfl)
  rw [hv] at HIX
  clear hfi hfl hx0 hall hv HOW hpx
  have gm : ((i0 : Int) == -1) = false := beq_eq_false_iff_ne.2 (by omega)
  go_enter Tryz.func127, Tryz.ntmps127
  go_wp2_with fail
  refine HIX.out.mono ?_
  rintro e w1 ⟨rfl, hb1⟩
  have HB1 : Hid (Below base w w1) := Lib.hid (hb1.mono hbase)
  have HC1 := Lib.hid (HC0.out.keep (hb1.block g hgw))
  have HK1 := Lib.hid (HBK.out.below hb1 hBw)
  have z1 := hb1.size
  clear hb1 HC0
  go_wp2
  go_loopw [5, 6, 7] (fun iv jv _ wr => ∃ i j : Nat, i < j ∧ j ≤ l.length ∧ iv = .int .i64 i ∧ jv = .int .i64 j ∧ Hid (cutH p l g i j wr) ∧ Hid (bk wr B t cs) ∧ Hid (Below base w wr) ∧ w.heap.size ≤ wr.heap.size) (fun _ jv _ _ => l.length - (intOf jv).toNat)
  case atStart => exact ⟨i0, i0 + 1, by omega, by omega, rfl, by go_num, HC1, HK1, HB1, z1⟩
  case round =>
    obtain ⟨i, j, hij, hjl, rfl, rfl, HC, HK, HB, hz⟩ := hrel
    by_cases hin : j < l.length
    · obtain ⟨x, hx⟩ : ∃ x, l[j]? = some x := ⟨_, List.getElem?_eq_getElem hin⟩
      obtain ⟨c0, c1, c2⟩ := HC.out.next hx
      have HSK := Lib.hid (fun W (h : cutH p l g i j W) hpx => h.skip hx hpx)
      have HSY := Lib.hid (fun W (h : cutH p l g i j W) hpx => h.stay hx hpx)
      have HP2 := Lib.hid (fun W (h : bk W B t cs) => HP.out W x h)
      clear hx
      have g1 : (j : Int) < (l.length : Int) := by omega
      have g2 : 0 ≤ (j : Int) := by omega
      have g3 : (i : Int) < (l.length : Int) := by omega
      have g4 : 0 ≤ (i : Int) := by omega
      generalize p x = px at HSK HSY HP2
      go_upto_region 8 with fail
      obtain ⟨W, hW⟩ : ∃ W, W = wr.alloc (.cells #[.string x.1, .int .i64 x.2.1, .int .i64 x.2.2] 104) := ⟨_, rfl⟩
      have b0 : bk W wr.heap.size 104 [.string x.1, .int .i64 x.2.1, .int .i64 x.2.2] := by rw [hW]; exact bk.new wr _ _
      have HB0 : Hid (Below base w W) := Lib.hid (by rw [hW]; exact HB.out.alloc (by omega) _)
      have HC2 : Hid (cutH p l g i j W) := Lib.hid (HC.out.keep (by rw [hW]; exact Below.heap_alloc _ _ _ (by omega)))
      have HK2 : Hid (bk W B t cs) := Lib.hid (by rw [hW]; exact HK.out.alloc _)
      have z0 := b0.lt
      rw [← hW]
      clear hW c0 c1 c2
      obtain ⟨p0, p1, p2⟩ := b0.cells3
      go_wp2_with fail
      refine (HP2.out W HK2.out).mono ?_
      rintro e w2 ⟨rfl, hb2⟩
      have z2 := hb2.size
      have HB2 : Hid (Below base w w2) := Lib.hid (HB0.out.trans (hb2.mono (by omega)))
      have HC3 : Hid (cutH p l g i j w2) := Lib.hid (HC2.out.keep (hb2.block _ (by omega)))
      have HK3 := Lib.hid (HK2.out.below hb2 (by omega))
      replace b0 := b0.below hb2 z0
      clear hb2 p0 p1 p2 HC HK HB HB0 HC2 HK2
      obtain ⟨p0, p1, p2⟩ := b0.cells3
      cases px
      · obtain ⟨⟨u0, d0⟩, f0⟩ := HC3.out.place 0 (by omega)
        obtain ⟨⟨u1, d1⟩, f1⟩ := HC3.out.place 1 (by omega)
        obtain ⟨⟨u2, d2⟩, f2⟩ := HC3.out.place 2 (by omega)
        simp only [Nat.add_zero] at d0 f0
        have HC4 := Lib.hid (HSY.out w2 HC3.out rfl)
        clear b0
        go_wp2
        go_roundw
        case rel => exact ⟨i + 1, j + 1, by omega, by omega, by go_num, by go_num, HC4, Lib.hid (((HK3.out.far (p := ⟨g, _, none⟩) (by simp; omega) _).far (p := ⟨g, _, none⟩) (by simp; omega) _).far (p := ⟨g, _, none⟩) (by simp; omega) _), Lib.hid (((HB2.out.setCell (p := ⟨g, _, none⟩) hgb _).setCell (p := ⟨g, _, none⟩) hgb _).setCell (p := ⟨g, _, none⟩) hgb _), by simp [World.setCell]; omega⟩
        case measure => simp [intOf] <;> omega
      · have HC4 := Lib.hid (HSK.out w2 HC3.out rfl)
        go_wp2
        go_roundw
        case rel => exact ⟨i, j + 1, by omega, by omega, rfl, by go_num, HC4, HK3, HB2, by omega⟩
        case measure => simp [intOf] <;> omega
    · obtain rfl : j = l.length := by omega
      have g3 : (i : Int) < (l.length : Int) := by omega
      have g4 : 0 ≤ (i : Int) := by omega
      go_wp2_with (refine wpList_clear_tail hCells 3 (fun _ => rfl) hCells_one rfl _ _ rfl 104 Tryz.underlying46 #[.string ⟨#[]⟩, .int .i64 0, .int .i64 0] infoHold2 noH rfl wr g (i * 3) (l.length - i) (c - i) HC.out.tail (by omega) rfl ?_)
      · obtain ⟨us, hus⟩ : ∃ us, us = (List.replicate (l.length - i) noH).flatMap hCells := ⟨_, rfl⟩
        rw [← hus]
        obtain ⟨he, hf⟩ := HC.out.done us
        have ht := setsAt_turned us wr g (i * 3) (Turned.refl g (g + 1) wr) (Nat.le_refl _) (by omega)
        have hsz := ht.size
        have HF := Lib.hid hf
        have HE := Lib.hid he
        have HBW : Hid (Below base w (setsAt wr g (i * 3) us)) := Lib.hid (HB.out.trans (setsAt_below us wr g (i * 3) (Below.refl _ _) hgb))
        generalize setsAt wr g (i * 3) us = wf at HF HBW hsz
        clear hf he ht hus HC HB HK
        go_wp2
        go_ret
        exact ⟨_, rfl, holds_mine HE.out (by omega) hgb (by omega) HF.out, HBW.out⟩
set_option maxRecDepth 100000 in
theorem stays_live (l : List HoldD) (now : Int) : staysP (fun x => !live now x) l = liveL l now := by
  unfold staysP liveL
  congr 1
  funext x
  simp
set_option maxRecDepth 100000 in
theorem says_live (now : Int) (B : Nat) : saysH 129 #[.pointer (some ⟨B, 0, none⟩)] B 3 [.int .i64 now] (fun x => !live now x) := by
  intro W x hb
  show Calls Tryz.prog 129 #[.agg #[.string x.1, .int .i64 x.2.1, .int .i64 x.2.2], .pointer (some ⟨B, 0, none⟩)] W _
  have HB0 : Hid (Below W.heap.size W (W.alloc (.cells #[.string x.1, .int .i64 x.2.1, .int .i64 x.2.2] 104))) := Lib.hid ((Below.refl _ _).alloc (Nat.le_refl _) _)
  have c0 : (W.alloc (.cells #[.string x.1, .int .i64 x.2.1, .int .i64 x.2.2] 104)).cell? ⟨B, 0, none⟩ = some (.int .i64 now) := (hb.alloc _).cell 0
  clear hb
  have HL := Lib.hid (fun V => implLive_any x now V)
  go_enter Tryz.func129, Tryz.ntmps129
  go_wp2_with fail
  refine (HL.out _).mono ?_
  rintro e w1 ⟨rfl, hb1⟩
  have HB1 : Hid (Below W.heap.size W w1) := Lib.hid (HB0.out.trans (hb1.mono (by simp)))
  clear hb1
  go_wp2
  go_ret
  exact ⟨rfl, HB1.out⟩
set_option maxRecDepth 100000 in
theorem implLiveOnes_any (hi : Nat) (v : Value) (l : List HoldD) (now : Int) (w : World) (hn : l.length ≤ 1048576) (h : HoldsR.rd hi w [v] l) (hh : hi ≤ w.heap.size) :
    Calls Tryz.prog 101 #[v, .int .i64 now] w (holdsOne (liveL l now) w) := by
  obtain ⟨W, hW⟩ : ∃ W, W = w.alloc (.cells #[.int .i64 now] 3) := ⟨_, rfl⟩
  have b0 : bk W w.heap.size 3 [.int .i64 now] := by rw [hW]; exact bk.new w _ _
  have HB0 : Hid (Below w.heap.size w W) := Lib.hid (by rw [hW]; exact (Below.refl _ _).alloc (Nat.le_refl _) _)
  have z0 := b0.lt
  have HCL := Lib.hid (cloneHolds_any hi v l W hn (Rep.below (R := HoldsR) h HB0.out hh) (Nat.le_trans hh HB0.out.size))
  have eg := Go.Proofs.enters_of Tryz.func129 (by kernel_rfl) rfl
  have HB := Lib.hid b0
  clear h b0
  go_enter Tryz.func101, Tryz.ntmps101
  go_upto_region 1 with fail
  rw [← hW]
  clear hW
  go_wp2_with fail
  refine HCL.out.mono ?_
  rintro e w1 ⟨A, c, rfl, ho, hb1⟩
  have z1 := hb1.size
  have HDL := Lib.hid (deleteHolds_any _ _ w.heap.size 3 [.int .i64 now] _ A c l W.heap.size w1 (says_live now w.heap.size) eg (HB.out.below hb1 z0) z0 hn ho z1)
  have HB1 : Hid (Below w.heap.size w w1) := Lib.hid (HB0.out.trans (hb1.mono (by omega)))
  clear ho hb1 HCL HB HB0
  go_wp2_with fail
  refine HDL.out.mono ?_
  rintro e w2 ⟨u, rfl, hm, hb2⟩
  have HM := Lib.hid hm
  have HB2 : Hid (Below w.heap.size w w2) := Lib.hid (HB1.out.trans (hb2.mono (by omega)))
  clear hm hb2 HDL HB1
  go_wp2
  go_ret
  exact ⟨_, rfl, by rw [← stays_live]; exact HM.out.mono (by omega) (Nat.le_refl _), HB2.out⟩
end Go.Proofs.YthnimmagaocipaaGreatDoor
set_option linter.unusedVariables false
namespace Go.Proofs.YthnimmagaocipaaGreatDoor
open Go.ChangeShapes Go.WideShapes Go.ChangeAt Go.RowKit

set_option maxRecDepth 100000 in
set_option maxHeartbeats 1600000 in
theorem implStored_any (hi : Nat) (v : Value) (l : List HoldD) (w : World) (hg : Handle w) (hn : l.length ≤ 1048576) (h : HoldsR.rd hi w [v] l) (hh : hi ≤ w.heap.size) :
    Calls Tryz.prog 99 #[v] w fun e w' => e = .returned (.int .i64 (storedL l)) ∧ Below w.heap.size w w' := by
  obtain ⟨A, c, rfl, hc, h⟩ := holds_rd h
  have HR := Lib.hid h
  have HG := Lib.hid hg
  clear h hg
  go_enter Tryz.func99, Tryz.ntmps99
  go_wp2
  go_loopw [3, 8] (fun nv iv wr => ∃ i : Nat, i ≤ l.length ∧ iv = .int .i64 i ∧ nv = .int .i64 (storedL (l.take i)) ∧ Hid (Below w.heap.size w wr) ∧ w.heap.size ≤ wr.heap.size) (fun _ iv _ => l.length - (intOf iv).toNat)
  case atStart => exact ⟨0, Nat.zero_le _, rfl, rfl, Lib.hid (Below.refl _ _), Nat.le_refl _⟩
  case round =>
    obtain ⟨i, hi', rfl, rfl, HB, hz⟩ := hrel
    by_cases hin : i < l.length
    · obtain ⟨x, hx⟩ : ∃ x, l[i]? = some x := ⟨_, List.getElem?_eq_getElem hin⟩
      obtain ⟨b, off, rfl, hbl, c0, c1, c2⟩ := HR.out i x hx
      have HNX := Lib.hid (storedL_next hx)
      clear hx
      have c0 := (HB.out.cell (p := ⟨b, off + i * 3, none⟩) (show b < w.heap.size by omega)).trans c0
      have c1 := (HB.out.cell (p := ⟨b, off + i * 3 + 1, none⟩) (show b < w.heap.size by omega)).trans c1
      have c2 := (HB.out.cell (p := ⟨b, off + i * 3 + 2, none⟩) (show b < w.heap.size by omega)).trans c2
      have g1 : (i : Int) < (l.length : Int) := by omega
      have g2 : 0 ≤ (i : Int) := by omega
      have HSA := Lib.hid (fun W (hW : Below w.heap.size w W) => implSat_any (storedL (l.take i)) x.2.1 W (HG.out.below hW (Nat.le_refl _)))
      have HB2 : Hid (Below w.heap.size w (wr.alloc (.cells #[.string x.1, .int .i64 x.2.1, .int .i64 x.2.2] 104))) := Lib.hid (HB.out.alloc hz _)
      go_wp2_with fail
      refine (HSA.out _ HB2.out).mono ?_
      rintro e w5 ⟨rfl, hb5⟩
      have HB5 : Hid (Below w.heap.size w w5) := Lib.hid (HB2.out.trans (hb5.mono (by simp; omega)))
      have z5 := hb5.size
      have z6 : w.heap.size ≤ w5.heap.size := by simp at z5; omega
      clear hb5 z5
      go_wp2
      go_roundw
      case rel => exact ⟨i + 1, by omega, by go_num, by rw [HNX.out], HB5, z6⟩
      case measure => simp [intOf] <;> omega
    · obtain rfl : i = l.length := by omega
      rw [List.take_length]
      go_wp2
      go_ret
      exact ⟨rfl, HB.out⟩
end Go.Proofs.YthnimmagaocipaaGreatDoor
