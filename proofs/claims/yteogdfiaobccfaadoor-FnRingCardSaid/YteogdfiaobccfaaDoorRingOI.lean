/- RingOk of the program and what it calls; no conditions. -/
import Derived.Test.YteogdfiaobccfaaDoorRingS
set_option linter.unusedVariables false
namespace Go.Proofs.YteogdfiaobccfaaDoor
open Go.ChangeShapes Go.WideShapes Go.ChangeAt Go.RowKit

set_option maxRecDepth 100000 in
theorem implTime_any (n : Int) (w : World) : Calls Tryd.prog 34 #[.int .i64 n] w fun e w' => e = .returned (.bool (timeB n)) ∧ w = w' := by
  by_cases h0 : 0 ≤ n
  all_goals
    go_enter Tryd.func34, Tryd.ntmps34
    go_wp2
    go_ret
    exact ⟨by simp [timeB, inB]; omega, rfl⟩
set_option maxRecDepth 100000 in
theorem implSpan_any (n : Int) (w : World) : Calls Tryd.prog 26 #[.int .i64 n] w fun e w' => e = .returned (.bool (inB n 1 1000)) ∧ w = w' := by
  by_cases h0 : 1 ≤ n
  all_goals
    go_enter Tryd.func26, Tryd.ntmps26
    go_wp2
    go_ret
    exact ⟨by simp [inB]; omega, rfl⟩
set_option maxRecDepth 100000 in
theorem implBuckets_any (n : Int) (w : World) : Calls Tryd.prog 25 #[.int .i64 n] w fun e w' => e = .returned (.bool (inB n 1 8)) ∧ w = w' := by
  by_cases h0 : 1 ≤ n
  all_goals
    go_enter Tryd.func25, Tryd.ntmps25
    go_wp2
    go_ret
    exact ⟨by simp [inB]; omega, rfl⟩
set_option maxRecDepth 100000 in
theorem implIsMon_any (n : Int) (w : World) : Calls Tryd.prog 28 #[.int .i64 n] w fun e w' => e = .returned (.bool (isMon n)) ∧ w = w' := by
  by_cases h0 : 0 ≤ n
  all_goals
    go_enter Tryd.func28, Tryd.ntmps28
    go_wp2
    go_ret
    exact ⟨by simp [isMon]; omega, rfl⟩
set_option maxRecDepth 100000 in
set_option maxHeartbeats 1600000 in
theorem implAll_any (hi : Nat) (v : Value) (l : List Int) (w : World) (h : rd .i64 hi w v l) (hl : l.length ≤ 1048576) :
    Calls Tryd.prog 35 #[v] w fun e w' => e = .returned (.bool (l.all isMon)) ∧ w = w' := by
  obtain ⟨A, c, rfl, -⟩ := h.form
  have HC := Lib.hid h
  clear h
  go_enter Tryd.func35, Tryd.ntmps35
  go_wp2
  go_loop [7] (fun iv => ∃ i : Nat, i ≤ l.length ∧ iv = .int .i64 i ∧ Hid ((l.take i).all isMon = true)) (fun iv => l.length - (intOf iv).toNat)
  case atStart => exact ⟨0, Nat.zero_le _, rfl, Lib.hid rfl⟩
  case round =>
    obtain ⟨i, hi', rfl, HA⟩ := hrel
    by_cases hin : i < l.length
    · obtain ⟨x, hx⟩ : ∃ x, l[i]? = some x := ⟨_, List.getElem?_eq_getElem hin⟩
      obtain ⟨p, o, rfl, hp, d0⟩ := ring_at HC.out hx
      have HX := Lib.hid (all_snoc hx HA.out)
      have HMX := Lib.hid (fun w => implIsMon_any x w)
      have HLX := Lib.hid (all_fail hx)
      have g1 : (i : Int) < (l.length : Int) := by omega
      have g2 : 0 ≤ (i : Int) := by omega
      clear hx
      generalize isMon x = mx at HX HMX HLX
      cases mx
      · have HF := Lib.hid (HLX.out rfl)
        go_wp2_with fail
        refine (HMX.out _).mono ?_
        rintro e w2 ⟨rfl, rfl⟩
        go_wp2
        go_ret
        exact ⟨by rw [HF.out]; rfl, rfl⟩
      · go_wp2_with fail
        refine (HMX.out _).mono ?_
        rintro e w2 ⟨rfl, rfl⟩
        go_wp2
        go_round
        case rel => exact ⟨i + 1, by omega, by go_num, Lib.hid (HX.out trivial)⟩
        case measure => simp [intOf] <;> omega
    · obtain rfl : i = l.length := by omega
      have HF : Hid (l.all isMon = true) := Lib.hid (by have h1 := HA.out; rwa [List.take_length] at h1)
      go_wp2
      go_ret
      exact ⟨by rw [HF.out]; rfl, rfl⟩
set_option maxRecDepth 100000 in
set_option maxHeartbeats 4000000 in
theorem implRingOk_any (hi : Nat) (vc vs : Value) (r : RingD) (w : World) (hc : rd .i64 hi w vc r.2.2.1) (hs : rd .i64 hi w vs r.2.2.2) (hh : hi ≤ w.heap.size) (hlc : r.2.2.1.length ≤ 1048576) (hls : r.2.2.2.length ≤ 1048576) :
    Calls Tryd.prog 12 #[.agg #[.int .i64 r.1, .int .i64 r.2.1, vc, vs]] w fun e w' => e = .returned (.bool (ringOk r)) ∧ Below w.heap.size w w' := by
  obtain ⟨sp, hd, cs, ss⟩ := r
  simp only at hc hs hlc hls ⊢
  obtain ⟨AC, cC, rfl, hcC⟩ := hc.form
  obtain ⟨AS, cS, rfl, hcS⟩ := hs.form
  have HB0 : Hid (Below w.heap.size w (w.alloc (.cells #[.int .i64 sp, .int .i64 hd, .slice AC cs.length cC, .slice AS ss.length cS] 27))) := Lib.hid ((Below.refl _ _).alloc (Nat.le_refl _) _)
  have HE : Hid (ringOk (sp, hd, cs, ss) = ((inB sp 1 1000 && (inB (cs.length : Int) 1 8 && (((cs.length : Int) == (ss.length : Int)) && timeB hd))) && (cs.all isMon && ss.all isMon))) := Lib.hid (by
    have e : decide (ss.length = cs.length) = ((cs.length : Int) == (ss.length : Int)) := by
      by_cases h : ss.length = cs.length
      · rw [h]; simp
      · rw [decide_eq_false h]; symm; simp; omega
    rw [← e]; rfl)
  have HI1 := Lib.hid (fun w => implSpan_any sp w)
  have HI2 := Lib.hid (fun w => implBuckets_any (cs.length : Int) w)
  have HT := Lib.hid (fun w => implTime_any hd w)
  have HA1 := Lib.hid (implAll_any hi _ cs _ (hc.below HB0.out hh) hlc)
  have HA2 := Lib.hid (implAll_any hi _ ss _ (hs.below HB0.out hh) hls)
  clear hc hs
  generalize inB sp 1 1000 = b1 at HI1 HE
  generalize inB (cs.length : Int) 1 8 = b2 at HI2 HE
  generalize timeB hd = b4 at HT HE
  generalize cs.all isMon = m1 at HA1 HE
  generalize ss.all isMon = m2 at HA2 HE
  obtain ⟨d, hd5⟩ : ∃ d, d = ((cs.length : Int) == (ss.length : Int)) := ⟨_, rfl⟩
  rw [← hd5] at HE
  go_enter Tryd.func12, Tryd.ntmps12
  go_wp2_with fail
  refine (HI1.out _).mono ?_
  rintro e w1 ⟨rfl, rfl⟩
  cases b1
  · go_wp2
    go_ret
    exact ⟨by rw [HE.out]; simp, HB0.out⟩
  go_wp2_with fail
  refine (HT.out _).mono ?_
  rintro e w1 ⟨rfl, rfl⟩
  cases b4
  · go_wp2
    go_ret
    exact ⟨by rw [HE.out]; simp, HB0.out⟩
  go_wp2_with fail
  refine (HI2.out _).mono ?_
  rintro e w1 ⟨rfl, rfl⟩
  cases b2
  · go_wp2
    go_ret
    exact ⟨by rw [HE.out]; simp, HB0.out⟩
  cases d
  · replace hd5 := hd5.symm
    go_wp2
    go_ret
    exact ⟨by rw [HE.out]; simp, HB0.out⟩
  replace hd5 := hd5.symm
  go_wp2_with fail
  refine (HA1.out).mono ?_
  rintro e w1 ⟨rfl, rfl⟩
  cases m1
  · go_wp2
    go_ret
    exact ⟨by rw [HE.out]; simp, HB0.out⟩
  go_wp2_with fail
  refine (HA2.out).mono ?_
  rintro e w1 ⟨rfl, rfl⟩
  cases m2
  · go_wp2
    go_ret
    exact ⟨by rw [HE.out]; simp, HB0.out⟩
  go_wp2
  go_ret
  exact ⟨by rw [HE.out]; simp, HB0.out⟩
set_option maxRecDepth 100000 in
set_option maxHeartbeats 4000000 in
theorem implCanRoll_any (hi : Nat) (vc vs : Value) (r : RingD) (now : Int) (w : World) (hc : rd .i64 hi w vc r.2.2.1) (hs : rd .i64 hi w vs r.2.2.2) (hh : hi ≤ w.heap.size) (hlc : r.2.2.1.length ≤ 1048576) (hls : r.2.2.2.length ≤ 1048576) :
    Calls Tryd.prog 27 #[.agg #[.int .i64 r.1, .int .i64 r.2.1, vc, vs], .int .i64 now] w fun e w' => e = .returned (.bool (ringOk r && timeB now)) ∧ Below w.heap.size w w' := by
  have HB0 : Hid (Below w.heap.size w (w.alloc (.cells #[.int .i64 r.1, .int .i64 r.2.1, vc, vs] 27))) := Lib.hid ((Below.refl _ _).alloc (Nat.le_refl _) _)
  have HO := Lib.hid (implRingOk_any hi vc vs r _ (hc.below HB0.out hh) (hs.below HB0.out hh) (Nat.le_trans hh HB0.out.size) hlc hls)
  have HT := Lib.hid (fun w => implTime_any now w)
  obtain ⟨AC, cC, rfl, hcC⟩ := hc.form
  obtain ⟨AS, cS, rfl, hcS⟩ := hs.form
  clear hc hs
  generalize ringOk r = ok at HO
  generalize timeB now = tm at HT
  cases ok
  · go_enter Tryd.func27, Tryd.ntmps27
    go_wp2_with fail
    refine (HO.out).mono ?_
    rintro e w1 ⟨rfl, hb⟩
    go_wp2
    go_ret
    exact ⟨rfl, HB0.out.trans (hb.mono (by simp))⟩
  · go_enter Tryd.func27, Tryd.ntmps27
    go_wp2_with fail
    refine (HO.out).mono ?_
    rintro e w1 ⟨rfl, hb⟩
    go_wp2_with fail
    refine (HT.out _).mono ?_
    rintro e w2 ⟨rfl, rfl⟩
    go_wp2
    go_ret
    exact ⟨rfl, HB0.out.trans (hb.mono (by simp))⟩
end Go.Proofs.YteogdfiaobccfaaDoor
