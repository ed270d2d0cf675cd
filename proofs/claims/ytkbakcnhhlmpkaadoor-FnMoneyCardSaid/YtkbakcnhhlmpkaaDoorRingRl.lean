/- RingRoll of the reference; no conditions. -/
import Derived.Test.YtkbakcnhhlmpkaaDoorRingC
import Derived.Test.YtkbakcnhhlmpkaaDoorQuiet
import Derived.Deep.DeepCutAuto
import Derived.StillTailTactics
import Derived.BigQuiet
set_option linter.unusedVariables false
namespace Go.Proofs.YtkbakcnhhlmpkaaDoor
open Go.ChangeShapes Go.WideShapes Go.ChangeAt Go.RowKit

def mixL (k i : Nat) (l : List Int) : List Int := (shiftL k l).take i ++ l.drop i
set_option maxRecDepth 100000 in
theorem mixL_len {k i : Nat} {l : List Int} (h : i ≤ l.length) : (mixL k i l).length = l.length := by
  unfold mixL
  rw [List.length_append, List.length_take, List.length_drop, shiftL_len]; omega
set_option maxRecDepth 100000 in
theorem mixL_zero (k : Nat) (l : List Int) : mixL k 0 l = l := by simp [mixL]
set_option maxRecDepth 100000 in
theorem mixL_end (k : Nat) (l : List Int) : mixL k l.length l = shiftL k l := by
  unfold mixL
  rw [List.drop_length, List.append_nil, ← shiftL_len k l, List.take_length]
set_option maxRecDepth 100000 in
theorem mixL_step {k i : Nat} {l : List Int} (h : i < l.length) : (mixL k i l).set i (if k ≤ i then l.getD (i - k) 0 else 0) = mixL k (i + 1) l := by
  have h1 := shiftL_at (k := k) h
  unfold mixL
  have h2 : ((shiftL k l).take i).length = i := by rw [List.length_take, shiftL_len]; omega
  rw [List.set_append_right _ _ (by omega), h2, Nat.sub_self, List.drop_eq_getElem_cons h, List.set_cons_zero]
  obtain ⟨h3, h4⟩ := List.getElem?_eq_some_iff.1 h1
  rw [List.take_succ_eq_append_getElem h3, h4, List.append_assoc]; rfl
set_option maxRecDepth 100000 in
theorem mixL_low {k i : Nat} {l : List Int} (h : i < l.length) (hk : ¬ k ≤ i) : (mixL k i l).set i 0 = mixL k (i + 1) l := by
  rw [← mixL_step (k := k) h, if_neg hk]
set_option maxRecDepth 100000 in
theorem mixL_high {k i : Nat} {l : List Int} (h : i < l.length) (hk : k ≤ i) : ((mixL k i l).set i 0).set i (l.getD (i - k) 0) = mixL k (i + 1) l := by
  rw [List.set_set, ← mixL_step (k := k) h, if_pos hk]
set_option maxRecDepth 100000 in
theorem nums.cell_at {K : IntKind} {lo hi : Nat} {w : World} {b off n c : Nat} {l : List Int} (h : nums K lo hi w (.slice (some ⟨b, off, none⟩) n c) l) {j : Nat} (hj : j < l.length) :
    w.cell? ⟨b, off + j, none⟩ = some (.int K (l.getD j 0)) ∧ w.frozen? ⟨b, off + j, none⟩ = false := by
  obtain ⟨b', off', e, h1, h2, h3, h4, h5⟩ := h.own_at hj
  simp only [Option.some.injEq, Addr.mk.injEq, and_true] at e
  obtain ⟨rfl, rfl⟩ := e
  exact ⟨h3, h4⟩
set_option maxRecDepth 100000 in
theorem rd.cell_at {hi : Nat} {w : World} {b off n c : Nat} {l : List Int} (h : rd .i64 hi w (.slice (some ⟨b, off, none⟩) n c) l) {j : Nat} (hj : j < l.length) :
    b < hi ∧ w.cell? ⟨b, off + j, none⟩ = some (.int .i64 (l.getD j 0)) := by
  obtain ⟨b', off', e, h1, h2⟩ := ring_at h (List.getElem?_eq_getElem hj)
  simp only [Option.some.injEq, Addr.mk.injEq, and_true] at e
  obtain ⟨rfl, rfl⟩ := e
  rw [List.getD_eq_getElem?_getD, List.getElem?_eq_getElem hj]
  exact ⟨h1, h2⟩
set_option maxRecDepth 100000 in
theorem bk.turned {w w' : World} {lo hi g : Nat} {t : TypeId} {cs : List Value} (h : bk w g t cs) (ht : Turned lo hi w w') (hg : g < lo ∨ hi ≤ g) : bk w' g t cs := (ht.block g h.lt (by omega)).trans h
set_option maxRecDepth 100000 in
theorem nums.len {K : IntKind} {lo hi : Nat} {w : World} {A : Option Addr} {n c : Nat} {l : List Int} (h : nums K lo hi w (.slice A n c) l) : n = l.length := by
  obtain ⟨A', c', hv, -⟩ := h
  simp only [Value.slice.injEq] at hv
  exact hv.2.1
set_option maxRecDepth 100000 in
/-- the quotient of two numbers that are no less than nought -/
theorem quo_ok {n s : Int} (h0 : 0 ≤ n) (h1 : n ≤ 1000000000) (h2 : 1 ≤ s) : wrap64 (n.tdiv s) = n / s ∧ 0 ≤ n / s ∧ n / s ≤ 1000000000 := by
  have e : n.tdiv s = n / s := Int.tdiv_eq_ediv_of_nonneg h0
  have l0 : 0 ≤ n / s := Int.ediv_nonneg h0 (by omega)
  have l1 : n / s ≤ n := Int.ediv_le_self s h0
  rw [e]
  refine ⟨?_, l0, by omega⟩
  unfold wrap64; omega

set_option maxRecDepth 100000 in
set_option maxHeartbeats 6400000 in
theorem specRingRoll_any (hi : Nat) (vc vs : Value) (r : RingD) (now : Int) (w : World) (h1 : rd .i64 hi w vc r.2.2.1) (h2 : rd .i64 hi w vs r.2.2.2) (hh : hi ≤ w.heap.size) (hc : r.2.2.1.length ≤ 1048576) (hs : r.2.2.2.length ≤ 1048576) :
    Calls Tryd.prog 57 #[.agg #[.int .i64 r.1, .int .i64 r.2.1, vc, vs], .int .i64 now] w (ringOne (ringRoll r now) w) := by
  obtain ⟨A1, c1, rfl, -⟩ := h1.form
  obtain ⟨A2, c2, rfl, -⟩ := h2.form
  have HCP := Lib.hid (fun W (hW : Below w.heap.size w W) => specCopy_any hi _ _ r W (h1.below hW hh) (h2.below hW hh) (Nat.le_trans hh hW.size) hc hs)
  have HOK := Lib.hid (fun W (hW : Below w.heap.size w W) => specRingOk_any hi _ _ r W (h1.below hW hh) (h2.below hW hh) (Nat.le_trans hh hW.size) hc hs)
  have HTM := Lib.hid (fun W => specTime_any now W)
  have HC := Lib.hid h1
  have HS := Lib.hid h2
  clear h1 h2
  have HLEN := Lib.hid (fun h => ringOk_len (r := r) h)
  have HRL : Hid (ringRoll r now = if (ringOk r && (timeB now && decide (r.2.1 < now / r.1))) = true then (r.1, now / r.1, shiftL (now / r.1 - r.2.1).toNat r.2.2.1, shiftL (now / r.1 - r.2.1).toNat r.2.2.2) else r) := Lib.hid rfl
  have HTB : Hid (timeB now = true → 0 ≤ now ∧ now ≤ 1000000000) := Lib.hid fun h => by simpa [timeB, inB] using h
  generalize ringOk r = ok at HOK HLEN HRL
  generalize timeB now = tm at HTM HRL HTB
  obtain ⟨sp, hd, cs, ss⟩ := r
  simp only at HC HS hc hs HCP HOK HLEN HRL ⊢
  go_enter Tryd.func57, Tryd.ntmps57
  go_wp2_with fail
  obtain ⟨W, hW⟩ : ∃ W, W = (w.alloc (.cells #[.int .i64 sp, .int .i64 hd, .slice A1 cs.length c1, .slice A2 ss.length c2] 26)).alloc (.cells #[.int .i64 0, .int .i64 0, .slice none 0 0, .slice none 0 0] 26) := ⟨_, rfl⟩
  have b0 : bk W w.heap.size 26 [.int .i64 sp, .int .i64 hd, .slice A1 cs.length c1, .slice A2 ss.length c2] := by rw [hW]; exact (bk.new w _ _).alloc _
  have b1 : bk W (w.heap.size + 1) 26 [.int .i64 0, .int .i64 0, .slice none 0 0, .slice none 0 0] := by rw [hW]; simpa using bk.new (w.alloc _) _ _
  have HB0 : Hid (Below w.heap.size w W) := Lib.hid (by rw [hW]; exact ((Below.refl _ _).alloc (Nat.le_refl _) _).alloc (by simp) _)
  have z0 : w.heap.size + 2 ≤ W.heap.size := by rw [hW]; simp
  rw [← hW]
  clear hW
  refine (HCP.out W HB0.out).mono ?_
  rintro e w1 ⟨vc', vs', rfl, hm1, hb1⟩
  obtain ⟨uc, us, hv, hnc, hns, hap⟩ := ring_mine hm1
  simp only [List.cons.injEq, and_true, true_and] at hv
  obtain ⟨rfl, rfl⟩ := hv
  obtain ⟨AU, cU, rfl, -⟩ := hnc.form
  obtain ⟨AV, cV, rfl, -⟩ := hns.form
  have z1 := hb1.size
  replace b0 := b0.below hb1 (by omega)
  replace b1 := b1.below hb1 (by omega)
  have HB1 : Hid (Below w.heap.size w w1) := Lib.hid (HB0.out.trans (hb1.mono (by omega)))
  have HU1 := Lib.hid hnc
  have HV1 := Lib.hid hns
  have HAP := Lib.hid hap
  clear hm1 hb1 hnc hns hap HB0
  go_upto_region 2 with fail
  obtain ⟨W3, hW3⟩ : ∃ W3, W3 = w1.alloc (.cells #[.int .i64 sp, .int .i64 hd, .slice AU cs.length cU, .slice AV ss.length cV] 26) := ⟨_, rfl⟩
  replace b0 := b0.alloc (.cells #[.int .i64 sp, .int .i64 hd, .slice AU cs.length cU, .slice AV ss.length cV] 26)
  replace b1 := b1.alloc (.cells #[.int .i64 sp, .int .i64 hd, .slice AU cs.length cU, .slice AV ss.length cV] 26)
  have b2 := bk.new w1 26 [.int .i64 sp, .int .i64 hd, .slice AU cs.length cU, .slice AV ss.length cV]
  have hb3 := (Below.refl w1.heap.size w1).alloc (Nat.le_refl _) (.cells #[.int .i64 sp, .int .i64 hd, .slice AU cs.length cU, .slice AV ss.length cV] 26)
  rw [show ([Value.int .i64 sp, .int .i64 hd, .slice AU cs.length cU, .slice AV ss.length cV] : List Value).toArray = #[.int .i64 sp, .int .i64 hd, .slice AU cs.length cU, .slice AV ss.length cV] from rfl] at b2
  rw [← hW3] at b0 b1 b2 hb3 ⊢
  clear hW3
  have z3 := b2.lt
  have HB3 : Hid (Below w.heap.size w W3) := Lib.hid (HB1.out.trans (hb3.mono (by omega)))
  have HU3 := Lib.hid (HU1.out.below hb3 (Nat.le_refl _))
  have HV3 := Lib.hid (HV1.out.below hb3 (Nat.le_refl _))
  clear hb3 HU1 HV1 HB1
  obtain ⟨⟨p0, p1, p2, p3⟩, -⟩ := b0.cells
  have B0 := Lib.hid b0
  have B1 := Lib.hid b1
  have B2 := Lib.hid b2
  clear b0 b1 b2
  go_cut [26] (fun cv wx => cv = .bool (!(ok && (tm && decide (hd < now / sp)))) ∧ Below W3.heap.size W3 wx)
  case first =>
    have HX : Hid (Ext W3 W3.drew) := Lib.hid (Ext.refl W3).drew
    have HBX : Hid (∀ W, Ext W3 W → Below w.heap.size w W) := Lib.hid fun W hW => HB3.out.trans (hW.below.mono (by omega))
    have P0 := Lib.hid p0
    have P1 := Lib.hid p1
    have P2 := Lib.hid p2
    have P3 := Lib.hid p3
    clear p0 p1 p2 p3
    cases ok
    · refine quiet_region (C := Ext W3) (by kernel_rfl) (by kernel_rfl) HX.out ?_
      repeat (first
        | go_big_quiet_skip
        | (go_big_quiet_want; go_big_quiet_op; go_big_quiet_on)
        | (go_big_quiet_want; go_big_quiet_op; apply Exists.intro; refine ⟨fun _ _ => rfl, ?_⟩; go_big_quiet_on)
        | (go_big_quiet_want
           apply Exists.intro
           refine ⟨fun W hW => ?_, ?_⟩
           (have q0 := hW.cell P0.out (by omega)
            have q1 := hW.cell P1.out (by omega)
            have q2 := hW.cell P2.out (by omega)
            have q3 := hW.cell P3.out (by omega)
            unfold Oper.quietAt
            go_simp
            rfl)
           simp only [Act.put, List.setIfInBounds_toArray, List.set_cons_zero, List.set_cons_succ]
           go_big_quiet_on)
        | (go_big_quiet_want
           apply Exists.intro
           refine ⟨fun W hW => ?_, ?_⟩
           (unfold Oper.quietAt
            go_simp
            go_at_call 53
            refine (HOK.out W (HBX.out W hW)).mono ?_
            rintro e w4 ⟨rfl, hb4⟩
            exact ⟨rfl, hW.step hb4⟩)
           simp only [Act.put, List.setIfInBounds_toArray, List.set_cons_zero, List.set_cons_succ]
           go_big_quiet_on)
        | (go_big_quiet_want
           apply Exists.intro
           refine ⟨fun W hW => ?_, ?_⟩
           (unfold Oper.quietAt
            go_simp
            go_at_call 55
            refine (HTM.out W).mono ?_
            rintro e w4 ⟨rfl, rfl⟩
            exact ⟨rfl, hW⟩)
           simp only [Act.put, List.setIfInBounds_toArray, List.set_cons_zero, List.set_cons_succ]
           go_big_quiet_on))
      refine wpQuiet_nil ?_
      intro W4 hW4
      go_wp2
      go_meet
      exact ⟨rfl, hW4⟩
    obtain ⟨o1, o2, -⟩ := HLEN.out rfl
    have n1 : (sp == 0) = false := by simp; omega
    have n2 : ¬ sp = 0 := by omega
    cases tm
    · refine quiet_region (C := Ext W3) (by kernel_rfl) (by kernel_rfl) HX.out ?_
      repeat (first
        | go_big_quiet_skip
        | (go_big_quiet_want; go_big_quiet_op; go_big_quiet_on)
        | (go_big_quiet_want; go_big_quiet_op; apply Exists.intro; refine ⟨fun _ _ => rfl, ?_⟩; go_big_quiet_on)
        | (go_big_quiet_want
           apply Exists.intro
           refine ⟨fun W hW => ?_, ?_⟩
           (have q0 := hW.cell P0.out (by omega)
            have q1 := hW.cell P1.out (by omega)
            have q2 := hW.cell P2.out (by omega)
            have q3 := hW.cell P3.out (by omega)
            unfold Oper.quietAt
            go_simp
            rfl)
           simp only [Act.put, List.setIfInBounds_toArray, List.set_cons_zero, List.set_cons_succ]
           go_big_quiet_on)
        | (go_big_quiet_want
           apply Exists.intro
           refine ⟨fun W hW => ?_, ?_⟩
           (unfold Oper.quietAt
            go_simp
            go_at_call 53
            refine (HOK.out W (HBX.out W hW)).mono ?_
            rintro e w4 ⟨rfl, hb4⟩
            exact ⟨rfl, hW.step hb4⟩)
           simp only [Act.put, List.setIfInBounds_toArray, List.set_cons_zero, List.set_cons_succ]
           go_big_quiet_on)
        | (go_big_quiet_want
           apply Exists.intro
           refine ⟨fun W hW => ?_, ?_⟩
           (unfold Oper.quietAt
            go_simp
            go_at_call 55
            refine (HTM.out W).mono ?_
            rintro e w4 ⟨rfl, rfl⟩
            exact ⟨rfl, hW⟩)
           simp only [Act.put, List.setIfInBounds_toArray, List.set_cons_zero, List.set_cons_succ]
           go_big_quiet_on))
      refine wpQuiet_nil ?_
      intro W4 hW4
      go_wp2
      go_meet
      exact ⟨rfl, hW4⟩
    obtain ⟨n3, n4⟩ := HTB.out rfl
    refine quiet_region (C := Ext W3) (by kernel_rfl) (by kernel_rfl) HX.out ?_
    repeat (first
      | go_big_quiet_skip
      | (go_big_quiet_want; go_big_quiet_op; go_big_quiet_on)
      | (go_big_quiet_want; go_big_quiet_op; apply Exists.intro; refine ⟨fun _ _ => rfl, ?_⟩; go_big_quiet_on)
      | (go_big_quiet_want
         apply Exists.intro
         refine ⟨fun W hW => ?_, ?_⟩
         (have q0 := hW.cell P0.out (by omega)
          have q1 := hW.cell P1.out (by omega)
          have q2 := hW.cell P2.out (by omega)
          have q3 := hW.cell P3.out (by omega)
          unfold Oper.quietAt
          go_simp
          rfl)
         simp only [Act.put, List.setIfInBounds_toArray, List.set_cons_zero, List.set_cons_succ]
         go_big_quiet_on)
      | (go_big_quiet_want
         apply Exists.intro
         refine ⟨fun W hW => ?_, ?_⟩
         (unfold Oper.quietAt
          go_simp
          go_at_call 53
          refine (HOK.out W (HBX.out W hW)).mono ?_
          rintro e w4 ⟨rfl, hb4⟩
          exact ⟨rfl, hW.step hb4⟩)
         simp only [Act.put, List.setIfInBounds_toArray, List.set_cons_zero, List.set_cons_succ]
         go_big_quiet_on)
      | (go_big_quiet_want
         apply Exists.intro
         refine ⟨fun W hW => ?_, ?_⟩
         (unfold Oper.quietAt
          go_simp
          go_at_call 55
          refine (HTM.out W).mono ?_
          rintro e w4 ⟨rfl, rfl⟩
          exact ⟨rfl, hW⟩)
         simp only [Act.put, List.setIfInBounds_toArray, List.set_cons_zero, List.set_cons_succ]
         go_big_quiet_on))
    refine wpQuiet_nil ?_
    intro W4 hW4
    go_wp2
    go_meet
    exact ⟨congrArg Value.bool (by rw [Bool.true_and, Bool.true_and]; by_cases h : hd < now / sp <;> simp [h] <;> omega), hW4⟩
  case rest =>
    obtain ⟨rfl, hbx⟩ := hcut
    have b0 := B0.out.below hbx (by omega)
    have b1 := B1.out.below hbx (by omega)
    have b2 := B2.out.below hbx (by omega)
    have zx := hbx.size
    have HBX : Hid (Below w.heap.size w wc) := Lib.hid (HB3.out.trans (hbx.mono (by omega)))
    have HU := Lib.hid (HU3.out.below hbx (by omega))
    have HV := Lib.hid (HV3.out.below hbx (by omega))
    clear hbx HB3 HU3 HV3 B0 B1 B2 p0 p1 p2 p3 HCP HOK HTM
    cases hg : (ok && (tm && decide (hd < now / sp)))
    · have HRF : Hid (ringRoll (sp, hd, cs, ss) now = (sp, hd, cs, ss)) := Lib.hid (by rw [HRL.out, hg]; rfl)
      obtain ⟨⟨p0, p1, p2, p3⟩, q0, q1, q2, q3⟩ := b2.cells
      obtain ⟨⟨r0, r1, r2, r3⟩, f0, f1, f2, f3⟩ := b1.cells
      clear b0 b1 b2 hg HRL HLEN HTB
      go_wp2
      refine bodyPost_ret (v := .agg #[.int .i64 sp, .int .i64 hd, .slice AU cs.length cU, .slice AV ss.length cV]) (by simp [results, Tryd.results57, go_sem, r0, r1, r2, r3]) rfl ?_
      rw [HRF.out]
      have ht := ((((Turned.refl w.heap.size (w.heap.size + 2) wc).set (b := w.heap.size + 1) 0 (.int .i64 sp) (by omega) (by omega)).set (b := w.heap.size + 1) 1 (.int .i64 hd) (by omega) (by omega)).set (b := w.heap.size + 1) 2 (.slice AU cs.length cU) (by omega) (by omega)).set (b := w.heap.size + 1) 3 (.slice AV ss.length cV) (by omega) (by omega)
      have hsz := ht.size
      exact ⟨_, _, rfl, ring_mine_of ((HU.out.turned ht (.inr (by omega)) (by omega)).mono (by omega) (by omega)) ((HV.out.turned ht (.inr (by omega)) (by omega)).mono (by omega) (by omega)) HAP.out, HBX.out.trans (ht.below (Nat.le_refl _) (by omega))⟩
    · simp only [Bool.and_eq_true, decide_eq_true_eq] at hg
      obtain ⟨rfl, rfl, hg⟩ := hg
      obtain ⟨o1, o2, o3, o4, o5, o6, o7⟩ := HLEN.out rfl
      obtain ⟨n3, n4⟩ := HTB.out rfl
      obtain ⟨-, n5, n6⟩ := quo_ok n3 n4 o1
      have n1 : (sp == 0) = false := by simp; omega
      have n2 : ¬ sp = 0 := by omega
      have HRT : Hid (ringRoll (sp, hd, cs, ss) now = (sp, now / sp, shiftL (now / sp - hd).toNat cs, shiftL (now / sp - hd).toNat ss)) := Lib.hid (by rw [HRL.out, Bool.true_and, Bool.true_and, if_pos (decide_eq_true hg)])
      obtain ⟨k, hk⟩ := Int.eq_ofNat_of_zero_le (show 0 ≤ now / sp - hd by omega)
      have k0 : (k : Int) ≤ 1000000000 := by omega
      have HO5 := Lib.hid o5
      have HKT : Hid ((now / sp - hd).toNat = k) := Lib.hid (by omega)
      clear o5 HRL HLEN HTB
      have hUl := HU.out.own_at (j := 0) (by omega)
      obtain ⟨bu, ou, rfl, u1, u2, -, -, u3⟩ := hUl
      have hVl := HV.out.own_at (j := 0) (by rw [HO5.out]; omega)
      obtain ⟨bv, ov, rfl, v1, v2, -, -, v3⟩ := hVl
      have HUV : Hid (bu ≠ bv) := Lib.hid fun e => HAP.out bu u3 (by rw [e]; exact v3)
      have HBU := Lib.hid u3
      have HBV := Lib.hid v3
      clear u3 v3
      obtain ⟨a1, e1, rfl, -, -⟩ := ring_at HC.out (List.getElem?_eq_getElem (show 0 < cs.length by omega))
      obtain ⟨a2, e2, rfl, -, -⟩ := ring_at HS.out (List.getElem?_eq_getElem (show 0 < ss.length by rw [HO5.out]; omega))
      obtain ⟨⟨p0, p1, p2, p3⟩, -⟩ := b0.cells
      have B0 := Lib.hid b0
      have B1 := Lib.hid b1
      have B2 := Lib.hid b2
      clear b0 b1 b2
      go_upto_region 4 with fail
      go_quiet (fail)
      go_wp2
      obtain ⟨W4, hW4⟩ : ∃ W4, W4 = wc.drewN nq := ⟨_, rfl⟩
      have B0 := Lib.hid (B0.out.drewN nq)
      have B1 := Lib.hid (B1.out.drewN nq)
      have B2 := Lib.hid (B2.out.drewN nq)
      have HU := Lib.hid (HU.out.below (below_drew' (Below.refl w1.heap.size wc) nq) (Nat.le_refl _))
      have HV := Lib.hid (HV.out.below (below_drew' (Below.refl w1.heap.size wc) nq) (Nat.le_refl _))
      have HBX := Lib.hid (below_drew' HBX.out nq)
      have zx4 : W3.heap.size ≤ (wc.drewN nq).heap.size := zx
      rw [← hW4] at B0 B1 B2 HU HV HBX zx4 ⊢
      clear hW4 p0 p1 p2 p3 zx
      go_loopw [38] (fun iv wr => ∃ i : Nat, i ≤ cs.length ∧ iv = .int .i64 i ∧ nums .i64 W.heap.size w1.heap.size wr (.slice (some ⟨bu, ou, none⟩) cs.length cU) (mixL k i cs) ∧ nums .i64 W.heap.size w1.heap.size wr (.slice (some ⟨bv, ov, none⟩) ss.length cV) (mixL k i ss) ∧ Turned W.heap.size w1.heap.size W4 wr) (fun iv _ => cs.length - (intOf iv).toNat)
      case atStart => exact ⟨0, Nat.zero_le _, rfl, by rw [mixL_zero]; exact HU.out, by rw [mixL_zero]; exact HV.out, Turned.refl _ _ _⟩
      case round =>
        obtain ⟨i, hi', rfl, hnu, hnv, htr⟩ := hrel
        have zr := htr.size
        have b0 := B0.out.turned htr (.inl (by omega))
        have b1 := B1.out.turned htr (.inl (by omega))
        have b2 := B2.out.turned htr (.inr (by omega))
        have HNU := Lib.hid hnu
        have HNV := Lib.hid hnv
        have HT := Lib.hid htr
        clear hnu hnv htr
        by_cases hin : i < cs.length
        · have g1 : (i : Int) < (cs.length : Int) := by omega
          have g2 : 0 ≤ (i : Int) := by omega
          have HIS : Hid (i < ss.length) := Lib.hid (by rw [HO5.out]; exact hin)
          have HIV : Hid ((i : Int) < (ss.length : Int)) := Lib.hid (by rw [HO5.out]; exact g1)
          have y0 : bu ≠ w.heap.size := by omega
          have y2 : bu ≠ w1.heap.size := by omega
          have x0 : bv ≠ w.heap.size := by omega
          have x2 : bv ≠ w1.heap.size := by omega
          obtain ⟨cu, fu⟩ := HNU.out.cell_at (j := i) (by rw [mixL_len hi']; exact hin)
          obtain ⟨⟨p0, p1, p2, p3⟩, -⟩ := b2.cells
          have BB0 := Lib.hid b0
          have BB1 := Lib.hid b1
          have BB2 := Lib.hid b2
          clear b0 b1 b2
          go_upto_region 9 with fail
          obtain ⟨W5, hW5⟩ : ∃ W5, W5 = wr.setCell ⟨bu, ou + i, none⟩ (.int .i64 0) := ⟨_, rfl⟩
          have BB0 := Lib.hid (BB0.out.far (p := ⟨bu, ou + i, none⟩) (Ne.symm y0) (.int .i64 0))
          have BB2 := Lib.hid (BB2.out.far (p := ⟨bu, ou + i, none⟩) (Ne.symm y2) (.int .i64 0))
          have HNU := Lib.hid (HNU.out.set (j := i) (by rw [mixL_len hi']; exact hin) 0)
          have HNV := Lib.hid (HNV.out.far (g := bu) (o := ou + i) (.int .i64 0) (by rw [HBV.out]; exact fun e => HUV.out (Option.some.inj e).symm))
          have HT := Lib.hid (HT.out.set (b := bu) (ou + i) (.int .i64 0) (by omega) (by omega))
          rw [← hW5] at BB0 BB2 HNU HNV HT ⊢
          clear hW5 p0 p1 p2 p3 cu fu
          obtain ⟨⟨p0, p1, p2, p3⟩, -⟩ := BB2.out.cells
          obtain ⟨cv, fv⟩ := HNV.out.cell_at (j := i) (by rw [mixL_len (Nat.le_of_lt HIS.out)]; exact HIS.out)
          have g3 := HIV.out
          go_upto_region 10 with fail
          obtain ⟨W6, hW6⟩ : ∃ W6, W6 = W5.setCell ⟨bv, ov + i, none⟩ (.int .i64 0) := ⟨_, rfl⟩
          have BB0 := Lib.hid (BB0.out.far (p := ⟨bv, ov + i, none⟩) (Ne.symm x0) (.int .i64 0))
          have BB2 := Lib.hid (BB2.out.far (p := ⟨bv, ov + i, none⟩) (Ne.symm x2) (.int .i64 0))
          have HNV := Lib.hid (HNV.out.set (j := i) (by rw [mixL_len (Nat.le_of_lt HIS.out)]; exact HIS.out) 0)
          have HNU := Lib.hid (HNU.out.far (g := bv) (o := ov + i) (.int .i64 0) (by rw [HBU.out]; exact fun e => HUV.out (Option.some.inj e)))
          have HT := Lib.hid (HT.out.set (b := bv) (ov + i) (.int .i64 0) (by omega) (by omega))
          rw [← hW6] at BB0 BB2 HNU HNV HT ⊢
          clear hW6 p0 p1 p2 p3 cv fv
          by_cases hki : k ≤ i
          · obtain ⟨d, hdi⟩ : ∃ d : Nat, d = i - k := ⟨_, rfl⟩
            have gd : (d : Int) < (cs.length : Int) := by omega
            have ge : 0 ≤ (d : Int) := by omega
            have gw : IntKind.i64.wrap ((i : Int) - (k : Int)) = (d : Int) := by rw [IntKind.wrap_i64]; omega
            have gk : (k : Int) ≤ (i : Int) := by omega
            have HDS : Hid (d < ss.length) := Lib.hid (by rw [HO5.out]; omega)
            obtain ⟨-, cc⟩ := ((HC.out.below HBX.out hh).below (HT.out.below (B := hi) (by omega) (by omega)) (Nat.le_refl _)).cell_at (j := d) (by omega)
            obtain ⟨⟨p0, p1, p2, p3⟩, -⟩ := BB2.out.cells
            obtain ⟨⟨q0, q1, q2, q3⟩, -⟩ := BB0.out.cells
            obtain ⟨cu, fu⟩ := HNU.out.cell_at (j := i) (by rw [List.length_set, mixL_len hi']; exact hin)
            have HDI := Lib.hid hdi
            clear hdi
            go_upto_region 11 with fail
            go_region
            obtain ⟨W7, hW7⟩ : ∃ W7, W7 = (W6.setCell ⟨bu, ou + i, none⟩ (.int .i64 (cs[d]?.getD 0))).drew := ⟨_, rfl⟩
            have BB0 := Lib.hid ((BB0.out.far (p := ⟨bu, ou + i, none⟩) (Ne.symm y0) (.int .i64 (cs[d]?.getD 0))).drew)
            have BB2 := Lib.hid ((BB2.out.far (p := ⟨bu, ou + i, none⟩) (Ne.symm y2) (.int .i64 (cs[d]?.getD 0))).drew)
            have HNU := Lib.hid ((HNU.out.set (j := i) (by rw [List.length_set, mixL_len hi']; exact hin) (cs[d]?.getD 0)).below (Below.refl w1.heap.size _).drew (Nat.le_refl _))
            have HNV := Lib.hid ((HNV.out.far (g := bu) (o := ou + i) (.int .i64 (cs[d]?.getD 0)) (by rw [HBV.out]; exact fun e => HUV.out (Option.some.inj e).symm)).below (Below.refl w1.heap.size _).drew (Nat.le_refl _))
            have HT := Lib.hid ((HT.out.set (b := bu) (ou + i) (.int .i64 (cs[d]?.getD 0)) (by omega) (by omega)).trans (Turned.of_below (Below.refl _ _).drew))
            rw [← hW7] at BB0 BB2 HNU HNV HT ⊢
            clear hW7 p0 p1 p2 p3 q0 q1 q2 q3 cu fu cc
            have gv := HIV.out
            have gdv : (d : Int) < (ss.length : Int) := by have := HDS.out; omega
            obtain ⟨-, cc⟩ := ((HS.out.below HBX.out hh).below (HT.out.below (B := hi) (by omega) (by omega)) (Nat.le_refl _)).cell_at (j := d) HDS.out
            obtain ⟨⟨p0, p1, p2, p3⟩, -⟩ := BB2.out.cells
            obtain ⟨⟨q0, q1, q2, q3⟩, -⟩ := BB0.out.cells
            obtain ⟨cv, fv⟩ := HNV.out.cell_at (j := i) (by rw [List.length_set, mixL_len (Nat.le_of_lt HIS.out)]; exact HIS.out)
            go_upto_region 12 with fail
            go_region
            obtain ⟨W8, hW8⟩ : ∃ W8, W8 = (W7.setCell ⟨bv, ov + i, none⟩ (.int .i64 (ss[d]?.getD 0))).drew := ⟨_, rfl⟩
            have HNV := Lib.hid ((HNV.out.set (j := i) (by rw [List.length_set, mixL_len (Nat.le_of_lt HIS.out)]; exact HIS.out) (ss[d]?.getD 0)).below (Below.refl w1.heap.size _).drew (Nat.le_refl _))
            have HNU := Lib.hid ((HNU.out.far (g := bv) (o := ov + i) (.int .i64 (ss[d]?.getD 0)) (by rw [HBU.out]; exact fun e => HUV.out (Option.some.inj e))).below (Below.refl w1.heap.size _).drew (Nat.le_refl _))
            have HT := Lib.hid ((HT.out.set (b := bv) (ov + i) (.int .i64 (ss[d]?.getD 0)) (by omega) (by omega)).trans (Turned.of_below (Below.refl _ _).drew))
            rw [← hW8] at HNU HNV HT ⊢
            clear hW8 p0 p1 p2 p3 q0 q1 q2 q3 cv fv cc
            go_wp2
            go_roundw
            case rel => exact ⟨i + 1, by omega, by go_num, by rw [← mixL_high (k := k) hin hki, ← HDI.out]; exact HNU.out, by rw [← mixL_high (k := k) HIS.out hki, ← HDI.out]; exact HNV.out, HT.out⟩
            case measure => simp [intOf] <;> omega
          · have gk : ¬ (k : Int) ≤ (i : Int) := by omega
            go_wp2
            go_roundw
            case rel => exact ⟨i + 1, by omega, by go_num, by rw [← mixL_low (k := k) hin hki]; exact HNU.out, by rw [← mixL_low (k := k) HIS.out hki]; exact HNV.out, HT.out⟩
            case measure => simp [intOf] <;> omega
        · obtain rfl : i = cs.length := by omega
          have HEU : Hid (mixL k cs.length cs = shiftL k cs) := Lib.hid (mixL_end _ _)
          have HEV : Hid (mixL k cs.length ss = shiftL k ss) := Lib.hid (by rw [← HO5.out]; exact mixL_end _ _)
          rw [HEU.out] at HNU
          rw [HEV.out] at HNV
          obtain ⟨⟨p0, p1, p2, p3⟩, d0, d1, d2, d3⟩ := b2.cells
          obtain ⟨⟨q0, q1, q2, q3⟩, -⟩ := b0.cells
          obtain ⟨⟨r0, r1, r2, r3⟩, f0, f1, f2, f3⟩ := b1.cells
          clear b0 b1 b2
          go_wp2
          refine bodyPost_ret (v := .agg #[.int .i64 sp, .int .i64 (now / sp), .slice (some ⟨bu, ou, none⟩) cs.length cU, .slice (some ⟨bv, ov, none⟩) ss.length cV]) (by simp [results, Tryd.results57, go_sem, r0, r1, r2, r3]) rfl ?_
          rw [HRT.out, HKT.out]
          have ht1 := (Turned.refl w1.heap.size (w1.heap.size + 1) wr).set (b := w1.heap.size) 1 (.int .i64 (now / sp)) (by omega) (by omega)
          have z9 := ht1.size
          have HNU := Lib.hid (HNU.out.turned ht1 (.inl (by omega)) (by omega))
          have HNV := Lib.hid (HNV.out.turned ht1 (.inl (by omega)) (by omega))
          have HB9 := Lib.hid (HBX.out.trans ((HT.out.below (B := w.heap.size) (by omega) (by omega)).trans (ht1.below (B := w.heap.size) (by omega) (by omega))))
          generalize (wr.setCell { block := w1.heap.size, off := 1 } (Value.int IntKind.i64 (now / sp))) = W9 at *
          have ht := ((((Turned.refl w.heap.size (w.heap.size + 2) W9).set (b := w.heap.size + 1) 0 (.int .i64 sp) (by omega) (by omega)).set (b := w.heap.size + 1) 1 (.int .i64 (now / sp)) (by omega) (by omega)).set (b := w.heap.size + 1) 2 (.slice (some ⟨bu, ou, none⟩) cs.length cU) (by omega) (by omega)).set (b := w.heap.size + 1) 3 (.slice (some ⟨bv, ov, none⟩) ss.length cV) (by omega) (by omega)
          have hsz := ht.size
          exact ⟨_, _, rfl, ring_mine_of ((HNU.out.turned ht (.inr (by omega)) (by omega)).mono (by omega) (by omega)) ((HNV.out.turned ht (.inr (by omega)) (by omega)).mono (by omega) (by omega)) HAP.out, HB9.out.trans (ht.below (Nat.le_refl _) (by omega))⟩
end Go.Proofs.YtkbakcnhhlmpkaaDoor
