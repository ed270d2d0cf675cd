/- RingOk of the reference; no conditions. -/
import Derived.Test.YtpeeagkfhdeagaaGreatDoorRing
import Derived.Test.YtpeeagkfhdeagaaGreatDoorMon
set_option linter.unusedVariables false
namespace Go.Proofs.YtpeeagkfhdeagaaGreatDoor
open Go.ChangeShapes Go.WideShapes Go.ChangeAt Go.RowKit

def inB (n lo hi : Int) : Bool := decide (lo ≤ n ∧ n ≤ hi)
def timeB (n : Int) : Bool := inB n 0 1000000000
/-- the four tests of a ring ahead of its buckets -/
def ringHead (r : RingD) : Bool := inB r.1 1 1000 && (inB (r.2.2.1.length : Int) 1 8 && (decide (r.2.2.2.length = r.2.2.1.length) && timeB r.2.1))
def ringOk (r : RingD) : Bool := ringHead r && (r.2.2.1.all isMon && r.2.2.2.all isMon)
set_option maxRecDepth 100000 in
theorem inB_any (n lo hi : Int) (w : World) : Calls Tryz.prog 49 #[.int .i64 n, .int .i64 lo, .int .i64 hi] w fun e w' => e = .returned (.bool (inB n lo hi)) ∧ w = w' := by
  by_cases h0 : lo ≤ n
  all_goals
    go_enter Tryz.func49, Tryz.ntmps49
    go_wp2
    go_ret
    exact ⟨by simp [inB]; omega, rfl⟩
set_option maxRecDepth 100000 in
theorem specTime_any (n : Int) (w : World) : Calls Tryz.prog 21 #[.int .i64 n] w fun e w' => e = .returned (.bool (timeB n)) ∧ w = w' := by
  have HT : Hid (timeB n = inB n 0 1000000000) := Lib.hid rfl
  rw [HT.out]
  have HI := Lib.hid (fun w => inB_any n 0 1000000000 w)
  generalize inB n 0 1000000000 = t at HI
  go_enter Tryz.func21, Tryz.ntmps21
  go_wp2_with fail
  refine (HI.out _).mono ?_
  rintro e w1 ⟨rfl, rfl⟩
  go_wp2
  go_ret
  exact ⟨rfl, rfl⟩
set_option maxRecDepth 100000 in
theorem ring_at {hi : Nat} {w : World} {A : Option Addr} {n c : Nat} {l : List Int} (h : rd .i64 hi w (.slice A n c) l) {j : Nat} {x : Int} (hx : l[j]? = some x) : ∃ b off : Nat, A = some ⟨b, off, none⟩ ∧ b < hi ∧ w.cell? ⟨b, off + j, none⟩ = some (.int .i64 x) := by
  obtain ⟨A', c', hv, hc, hj⟩ := h
  simp only [Value.slice.injEq] at hv
  obtain ⟨rfl, -, -⟩ := hv
  obtain ⟨b, off, e, h1, h2⟩ := hj j (List.getElem?_eq_some_iff.1 hx).1
  rw [List.getD_eq_getElem?_getD, hx] at h2
  exact ⟨b, off, e, h1, h2⟩
set_option maxRecDepth 100000 in
theorem all_snoc {l : List Int} {i : Nat} {x : Int} (hx : l[i]? = some x) (h : (l.take i).all isMon = true) : isMon x = true → (l.take (i + 1)).all isMon = true := fun hm => by
  obtain ⟨hi, rfl⟩ := List.getElem?_eq_some_iff.1 hx
  rw [List.take_succ_eq_append_getElem hi, List.all_append, h]
  simp [hm]
set_option maxRecDepth 100000 in
theorem all_fail {l : List Int} {i : Nat} {x : Int} (hx : l[i]? = some x) : isMon x = false → l.all isMon = false := fun hm => by
  rw [List.all_eq_false]
  exact ⟨x, List.mem_of_getElem? hx, by simp [hm]⟩
set_option maxRecDepth 100000 in
theorem ring_no {r : RingD} (h : ringHead r = false) : ringOk r = false := by simp [ringOk, h]

set_option maxRecDepth 100000 in
set_option maxHeartbeats 4000000 in
theorem specRingOk_any (hi : Nat) (vc vs : Value) (r : RingD) (w : World) (hc : rd .i64 hi w vc r.2.2.1) (hs : rd .i64 hi w vs r.2.2.2) (hh : hi ≤ w.heap.size) (hlc : r.2.2.1.length ≤ 1048576) (hls : r.2.2.2.length ≤ 1048576) :
    Calls Tryz.prog 52 #[.agg #[.int .i64 r.1, .int .i64 r.2.1, vc, vs]] w fun e w' => e = .returned (.bool (ringOk r)) ∧ Below w.heap.size w w' := by
  obtain ⟨sp, hd, cs, ss⟩ := r
  simp only at hc hs hlc hls ⊢
  obtain ⟨AC, cC, rfl, hcC⟩ := hc.form
  obtain ⟨AS, cS, rfl, hcS⟩ := hs.form
  have HC := Lib.hid hc
  have HS := Lib.hid hs
  have HB0 : Hid (Below w.heap.size w (w.alloc (.cells #[.int .i64 sp, .int .i64 hd, .slice AC cs.length cC, .slice AS ss.length cS] 32))) := Lib.hid ((Below.refl _ _).alloc (Nat.le_refl _) _)
  have HD : Hid (ringHead (sp, hd, cs, ss) = (inB sp 1 1000 && (inB (cs.length : Int) 1 8 && (decide (ss.length = cs.length) && timeB hd)))) := Lib.hid rfl
  clear hc hs
  have HI1 := Lib.hid (fun w => inB_any sp 1 1000 w)
  have HI2 := Lib.hid (fun w => inB_any (cs.length : Int) 1 8 w)
  have HT := Lib.hid (fun w => specTime_any hd w)
  generalize inB sp 1 1000 = b1 at HI1 HD
  generalize inB (cs.length : Int) 1 8 = b2 at HI2 HD
  generalize timeB hd = b4 at HT HD
  cases b1
  · have HN : Hid (ringOk (sp, hd, cs, ss) = false) := Lib.hid (ring_no (by rw [HD.out]; rfl))
    rw [HN.out]
    go_enter Tryz.func52, Tryz.ntmps52
    go_wp2_with fail
    refine (HI1.out _).mono ?_
    rintro e w1 ⟨rfl, rfl⟩
    go_wp2
    go_ret
    exact ⟨rfl, HB0.out⟩
  cases b2
  · have HN : Hid (ringOk (sp, hd, cs, ss) = false) := Lib.hid (ring_no (by rw [HD.out]; rfl))
    rw [HN.out]
    go_enter Tryz.func52, Tryz.ntmps52
    go_wp2_with fail
    refine (HI1.out _).mono ?_
    rintro e w1 ⟨rfl, rfl⟩
    go_wp2_with fail
    refine (HI2.out _).mono ?_
    rintro e w1 ⟨rfl, rfl⟩
    go_wp2
    go_ret
    exact ⟨rfl, HB0.out⟩
  by_cases h3 : ss.length = cs.length
  · cases b4
    · have HN : Hid (ringOk (sp, hd, cs, ss) = false) := Lib.hid (ring_no (by rw [HD.out, decide_eq_true h3]; rfl))
      rw [HN.out]
      have h3' : ((ss.length : Int) != (cs.length : Int)) = false := by simp [h3]
      clear h3
      go_enter Tryz.func52, Tryz.ntmps52
      go_wp2_with fail
      refine (HI1.out _).mono ?_
      rintro e w1 ⟨rfl, rfl⟩
      go_wp2_with fail
      refine (HI2.out _).mono ?_
      rintro e w1 ⟨rfl, rfl⟩
      go_wp2_with fail
      refine (HT.out _).mono ?_
      rintro e w1 ⟨rfl, rfl⟩
      go_wp2
      go_ret
      exact ⟨rfl, HB0.out⟩
    · have HY : Hid (ringOk (sp, hd, cs, ss) = (cs.all isMon && ss.all isMon)) := Lib.hid (by unfold ringOk; rw [HD.out, decide_eq_true h3]; rfl)
      rw [HY.out]
      have h3' : ((ss.length : Int) != (cs.length : Int)) = false := by simp [h3]
      have H3 := Lib.hid h3
      clear h3
      go_enter Tryz.func52, Tryz.ntmps52
      go_wp2_with fail
      refine (HI1.out _).mono ?_
      rintro e w1 ⟨rfl, rfl⟩
      go_wp2_with fail
      refine (HI2.out _).mono ?_
      rintro e w1 ⟨rfl, rfl⟩
      go_wp2_with fail
      refine (HT.out _).mono ?_
      rintro e w1 ⟨rfl, rfl⟩
      go_wp2
      have hbx := heap_alloc_new w (.cells #[.int .i64 sp, .int .i64 hd, .slice AC cs.length cC, .slice AS ss.length cS] 32)
      generalize w.alloc (.cells #[.int .i64 sp, .int .i64 hd, .slice AC cs.length cC, .slice AS ss.length cS] 32) = w1 at HB0 hbx ⊢
      have k2 := cell_of_row _ _ 2 _ _ (0, 0) hbx
      have k3 := cell_of_row _ _ 3 _ _ (0, 0) hbx
      simp only [List.getElem?_toArray, List.getElem?_cons_zero, List.getElem?_cons_succ] at k2 k3
      clear hbx
      have z1 : w.heap.size ≤ w1.heap.size := HB0.out.size
      go_loop [33] (fun iv => ∃ i : Nat, i ≤ cs.length ∧ iv = .int .i64 i ∧ Hid ((cs.take i).all isMon = true ∧ (ss.take i).all isMon = true)) (fun iv => cs.length - (intOf iv).toNat)
      case atStart => exact ⟨0, Nat.zero_le _, rfl, Lib.hid ⟨rfl, rfl⟩⟩
      case round =>
        obtain ⟨i, hi', rfl, HA⟩ := hrel
        by_cases hin : i < cs.length
        · have hin2 : i < ss.length := by have := H3.out; omega
          obtain ⟨x, hx⟩ : ∃ x, cs[i]? = some x := ⟨_, List.getElem?_eq_getElem hin⟩
          obtain ⟨y, hy⟩ : ∃ y, ss[i]? = some y := ⟨_, List.getElem?_eq_getElem hin2⟩
          obtain ⟨p, o, rfl, hp, d0⟩ := ring_at (HC.out.below HB0.out hh) hx
          obtain ⟨q, r, rfl, hq, e0⟩ := ring_at (HS.out.below HB0.out hh) hy
          have HX := Lib.hid (all_snoc hx HA.out.1)
          have HY2 := Lib.hid (all_snoc hy HA.out.2)
          have HMX := Lib.hid (fun w => l01Money_any x w)
          have HMY := Lib.hid (fun w => l01Money_any y w)
          have HLX := Lib.hid (all_fail hx)
          have HLY := Lib.hid (all_fail hy)
          have g1 : (i : Int) < (cs.length : Int) := by omega
          have g1' : (i : Int) < (ss.length : Int) := by omega
          have g2 : 0 ≤ (i : Int) := by omega
          clear hx hy
          generalize isMon x = mx at HX HMX HLX
          generalize isMon y = my at HY2 HMY HLY
          cases mx
          · have HF : Hid ((cs.all isMon && ss.all isMon) = false) := Lib.hid (by rw [HLX.out rfl]; rfl)
            go_wp2_with fail
            refine (HMX.out _).mono ?_
            rintro e w2 ⟨rfl, rfl⟩
            go_wp2
            go_ret
            exact ⟨by rw [HF.out]; rfl, HB0.out⟩
          cases my
          · have HF : Hid ((cs.all isMon && ss.all isMon) = false) := Lib.hid (by rw [HLY.out rfl, Bool.and_false])
            go_wp2_with fail
            refine (HMX.out _).mono ?_
            rintro e w2 ⟨rfl, rfl⟩
            go_wp2_with fail
            refine (HMY.out _).mono ?_
            rintro e w2 ⟨rfl, rfl⟩
            go_wp2
            go_ret
            exact ⟨by rw [HF.out]; rfl, HB0.out⟩
          · go_wp2_with fail
            refine (HMX.out _).mono ?_
            rintro e w2 ⟨rfl, rfl⟩
            go_wp2_with fail
            refine (HMY.out _).mono ?_
            rintro e w2 ⟨rfl, rfl⟩
            go_wp2
            go_round
            case rel => exact ⟨i + 1, by omega, by go_num, Lib.hid ⟨HX.out trivial, HY2.out trivial⟩⟩
            case measure => simp [intOf] <;> omega
        · obtain rfl : i = cs.length := by omega
          have HF : Hid ((cs.all isMon && ss.all isMon) = true) := Lib.hid (by
            have h1 := HA.out.1
            have h2 := HA.out.2
            rw [List.take_length] at h1
            rw [← H3.out, List.take_length] at h2
            rw [h1, h2]; rfl)
          go_wp2
          go_ret
          exact ⟨by rw [HF.out]; rfl, HB0.out⟩
  · have HN : Hid (ringOk (sp, hd, cs, ss) = false) := Lib.hid (ring_no (by rw [HD.out, decide_eq_false h3]; rfl))
    rw [HN.out]
    have h3' : ((ss.length : Int) != (cs.length : Int)) = true := by simp; omega
    clear h3
    go_enter Tryz.func52, Tryz.ntmps52
    go_wp2_with fail
    refine (HI1.out _).mono ?_
    rintro e w1 ⟨rfl, rfl⟩
    go_wp2_with fail
    refine (HI2.out _).mono ?_
    rintro e w1 ⟨rfl, rfl⟩
    go_wp2
    go_ret
    exact ⟨rfl, HB0.out⟩
end Go.Proofs.YtpeeagkfhdeagaaGreatDoor
