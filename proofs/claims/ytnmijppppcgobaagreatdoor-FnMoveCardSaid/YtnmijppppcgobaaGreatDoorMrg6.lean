/- What a check says: a function value that gives a code in any later world; decide and refuseIf of the program; no conditions. -/
import Derived.Test.YtnmijppppcgobaaGreatDoorMrg5
import Derived.Shelf.Abstract
import Derived.Test.YtnmijppppcgobaaGreatDoorMrg2
import Derived.Test.YtnmijppppcgobaaGreatDoorMrg3
import Derived.Test.YtnmijppppcgobaaGreatDoorMrg1
import Derived.Laws.StructEq
import Derived.DeepKeys4
import Derived.Maps.Own
import Derived.Maps.Views
import Derived.Maps.OwnOps
import Derived.Carry
import Derived.Deep.RegionHeld3
import Derived.Lib.SliceRun
set_option linter.unusedVariables false
namespace Go.Proofs.YtnmijppppcgobaaGreatDoor
open Go.ChangeShapes Go.WideShapes Go.ChangeAt Go.RowKit

/-- a function value that gives the code k, whenever it is called from now on -/
def chk (w : World) (g : Nat) (lb : Array Value) (k : Int) : Prop := (∀ args W, (callFunc g args).run Tryz.prog W = .ok (.enter g args) W) ∧ ∀ W, Below w.heap.size w W → Calls Tryz.prog g lb W fun e w' => e = .returned (.int .i64 k) ∧ Below W.heap.size W w'
/-- a function value that says b, whenever it is called from now on -/
def chkB (w : World) (g : Nat) (lb : Array Value) (b : Bool) : Prop := (∀ args W, (callFunc g args).run Tryz.prog W = .ok (.enter g args) W) ∧ ∀ W, Below w.heap.size w W → Calls Tryz.prog g lb W fun e w' => e = .returned (.bool b) ∧ Below W.heap.size W w'
set_option maxRecDepth 100000 in
theorem chk.later {w w' : World} {g : Nat} {lb : Array Value} {k : Int} (h : chk w g lb k) (hb : Below w.heap.size w w') : chk w' g lb k := ⟨h.1, fun W hW => h.2 W (hb.trans (hW.mono hb.size))⟩
set_option maxRecDepth 100000 in
theorem chkB.later {w w' : World} {g : Nat} {lb : Array Value} {k : Bool} (h : chkB w g lb k) (hb : Below w.heap.size w w') : chkB w' g lb k := ⟨h.1, fun W hW => h.2 W (hb.trans (hW.mono hb.size))⟩
/-- a check is given back -/
def chkRes (k : Int) (w : World) (e : Ending) (w' : World) : Prop := ∃ g lb, e = .returned (.func (.func g) #[] lb) ∧ chk w' g lb k ∧ Below w.heap.size w w'
/-- the first code that refuses, or 0 -/
def firstC : List Int → Int
  | [] => 0
  | k :: l => if k = 0 then firstC l else k
set_option maxRecDepth 100000 in
theorem firstC_skip {l : List Int} {i : Nat} {k : Int} (hk : l[i]? = some k) (h : k = 0) : firstC (l.drop i) = firstC (l.drop (i + 1)) := by
  obtain ⟨hi, rfl⟩ := List.getElem?_eq_some_iff.1 hk
  rw [List.drop_eq_getElem_cons hi, firstC, if_pos h]
set_option maxRecDepth 100000 in
theorem firstC_stop {l : List Int} {i : Nat} {k : Int} (hk : l[i]? = some k) (h : k ≠ 0) : firstC (l.drop i) = k := by
  obtain ⟨hi, rfl⟩ := List.getElem?_eq_some_iff.1 hk
  rw [List.drop_eq_getElem_cons hi, firstC, if_neg h]
/-- a code under a condition -/
def codeIf (b : Bool) (k : Int) : Int := if b = true then k else 0
set_option maxRecDepth 100000 in
set_option maxHeartbeats 1600000 in
theorem refuse_says (code : Int) (b : Bool) (g : Nat) (lb : Array Value) (B1 B2 : Nat) (w : World) (h : chkB w g lb b) (h1 : bk w B1 109 [.func (.func g) #[] lb]) (h2 : bk w B2 3 [.int .i64 code]) : chk w 167 #[.pointer (some ⟨B1, 0, none⟩), .pointer (some ⟨B2, 0, none⟩)] (codeIf b code) := by
  refine ⟨Go.Proofs.enters_of Tryz.func167 (by kernel_rfl) rfl, fun W hW => ?_⟩
  have c1 : W.cell? ⟨B1, 0, none⟩ = some (.func (.func g) #[] lb) := (h1.below hW h1.lt).cell 0
  have H2 : Hid (bk W B2 3 [.int .i64 code]) := Lib.hid (h2.below hW h2.lt)
  have z2 : B2 < W.heap.size := H2.out.lt
  have eg := h.1
  have HC := Lib.hid (h.2 W hW)
  clear h h1 h2 hW
  go_enter Tryz.func167, Tryz.ntmps167
  go_wp2_with fail
  refine HC.out.mono ?_
  rintro e w1 ⟨rfl, hb1⟩
  have c2 : w1.cell? ⟨B2, 0, none⟩ = some (.int .i64 code) := (H2.out.below hb1 z2).cell 0
  have HB1 := Lib.hid hb1
  clear hb1 H2 HC
  cases b
  · go_wp2
    go_ret
    exact ⟨rfl, HB1.out⟩
  · go_wp2
    go_ret
    exact ⟨rfl, HB1.out⟩
set_option maxRecDepth 100000 in
set_option maxHeartbeats 1600000 in
theorem implRefuseIf_any (code : Int) (b : Bool) (g : Nat) (lb : Array Value) (w : World) (h : chkB w g lb b) :
    Calls Tryz.prog 84 #[.int .i64 code, .func (.func g) #[] lb] w (chkRes (codeIf b code) w) := by
  obtain ⟨W, hW⟩ : ∃ W, W = (w.alloc (.cells #[.int .i64 code] 3)).alloc (.cells #[.func (.func g) #[] lb] 109) := ⟨_, rfl⟩
  have HB0 : Hid (Below w.heap.size w W) := Lib.hid (by rw [hW]; exact ((Below.refl _ _).alloc (Nat.le_refl _) _).alloc (by simp) _)
  have b0 : bk W w.heap.size 3 [.int .i64 code] := by rw [hW]; exact (bk.new w _ _).alloc _
  have b1 : bk W (w.heap.size + 1) 109 [.func (.func g) #[] lb] := by rw [hW]; simpa using bk.new (w.alloc _) 109 [.func (.func g) #[] lb]
  have HR := Lib.hid (refuse_says code b g lb (w.heap.size + 1) w.heap.size W (h.later HB0.out) b1 b0)
  clear h b0 b1
  go_enter Tryz.func84, Tryz.ntmps84
  go_upto_region 1 with fail
  rw [← hW]
  clear hW
  go_wp2
  go_ret
  exact ⟨_, _, rfl, HR.out, HB0.out⟩
set_option maxRecDepth 100000 in
set_option maxHeartbeats 1600000 in
theorem implDecide_any (vs : List (Nat × Array Value)) (ks : List Int) (b : Nat) (n c : Nat) (w : World) (hv : vs.length = n) (hl : ks.length = n) (hn : n ≤ 1000) (hr : ∀ (i : Nat) (x : Nat × Array Value), vs[i]? = some x → w.cell? ⟨b, i, none⟩ = some (.func (.func x.1) #[] x.2)) (hk : ∀ (i : Nat) (x : Nat × Array Value) (k : Int), vs[i]? = some x → ks[i]? = some k → chk w x.1 x.2 k) (hb : b < w.heap.size) :
    Calls Tryz.prog 55 #[.slice (some ⟨b, 0, none⟩) n c] w fun e w' => e = .returned (.int .i64 (firstC ks)) ∧ Below w.heap.size w w' := by
  have HR := Lib.hid hr
  have HK := Lib.hid hk
  have HV := Lib.hid hv
  have HL := Lib.hid hl
  clear hr hk hv hl
  go_enter Tryz.func55, Tryz.ntmps55
  go_wp2
  go_loopw [8] (fun iv wr => ∃ i : Nat, i ≤ n ∧ iv = .int .i64 i ∧ Hid (firstC ks = firstC (ks.drop i)) ∧ Hid (Below w.heap.size w wr) ∧ w.heap.size ≤ wr.heap.size) (fun iv _ => n - (intOf iv).toNat)
  case atStart => exact ⟨0, Nat.zero_le _, rfl, Lib.hid rfl, Lib.hid (Below.refl _ _), Nat.le_refl _⟩
  case round =>
    obtain ⟨i, hi', rfl, HN, HB, hz⟩ := hrel
    by_cases hin : i < n
    · obtain ⟨x, hx⟩ : ∃ x, vs[i]? = some x := ⟨_, List.getElem?_eq_getElem (by have := HV.out; omega)⟩
      obtain ⟨k, hk⟩ : ∃ k, ks[i]? = some k := ⟨_, List.getElem?_eq_getElem (by have := HL.out; omega)⟩
      have c0 := (HB.out.cell (p := ⟨b, i, none⟩) (show b < w.heap.size by omega)).trans (HR.out i x hx)
      have hch := HK.out i x k hx hk
      have HC := Lib.hid (hch.2 wr HB.out)
      have eg := hch.1
      obtain ⟨g, lb⟩ := x
      simp only at c0 eg HC
      have HYES := Lib.hid (fun he => HN.out.trans (firstC_skip hk he))
      have HNO := Lib.hid (fun he => HN.out.trans (firstC_stop hk he))
      clear hx hk hch
      have g1 : (i : Int) < (n : Int) := by omega
      have g2 : 0 ≤ (i : Int) := by omega
      go_wp2_with fail
      refine HC.out.mono ?_
      rintro e w1 ⟨rfl, hb1⟩
      have z1 := hb1.size
      have HB1 : Hid (Below w.heap.size w w1) := Lib.hid (HB.out.trans (hb1.mono (by omega)))
      clear hb1 c0
      by_cases h0 : k = 0
      · have HN2 := Lib.hid (HYES.out h0)
        subst h0
        go_wp2
        go_roundw
        case rel => exact ⟨i + 1, by omega, by go_num, HN2, HB1, by omega⟩
        case measure => simp [intOf] <;> omega
      · have HV := Lib.hid (HNO.out h0)
        go_wp2
        go_ret
        exact ⟨ret_int HV.out.symm, HB1.out⟩
    · obtain rfl : i = n := by omega
      have HE : Hid (firstC ks = 0) := Lib.hid (by have h1 := HN.out; rw [List.drop_eq_nil_of_le (by have := HL.out; omega)] at h1; exact h1)
      go_wp2
      go_ret
      exact ⟨ret_int HE.out.symm, HB.out⟩
set_option maxRecDepth 100000 in
/-- decide over a row of checks that was just laid -/
theorem implDecideRow_any (vs : List (Nat × Array Value × Int)) (ks : List Int) (T : TypeId) (c : Nat) (w : World) (hks : vs.map (fun x => x.2.2) = ks) (hn : vs.length ≤ 1000) (hk : ∀ x ∈ vs, chk w x.1 x.2.1 x.2.2) :
    Calls Tryz.prog 55 #[.slice (some ⟨w.heap.size, 0, none⟩) vs.length c] (w.alloc (.cells (vs.map fun x => Value.func (.func x.1) #[] x.2.1).toArray T)) fun e w' => e = .returned (.int .i64 (firstC ks)) ∧ Below w.heap.size w w' := by
  subst hks
  have hb : Below w.heap.size w (w.alloc (.cells (vs.map fun x => Value.func (.func x.1) #[] x.2.1).toArray T)) := (Below.refl _ _).alloc (Nat.le_refl _) _
  have hbk := bk.new w T (vs.map fun x => Value.func (.func x.1) #[] x.2.1)
  refine (implDecide_any (vs.map fun x => (x.1, x.2.1)) (vs.map fun x => x.2.2) w.heap.size vs.length c _ (by simp) (by simp) hn (fun i x hx => ?_) (fun i x k hx hkk => ?_) hbk.lt).mono ?_
  · rw [List.getElem?_map] at hx
    cases hq : vs[i]? with
    | none => rw [hq] at hx; cases hx
    | some y =>
      rw [hq] at hx
      cases hx
      rw [hbk.cell i, List.getElem?_map, hq]
      rfl
  · rw [List.getElem?_map] at hx hkk
    cases hq : vs[i]? with
    | none => rw [hq] at hx; cases hx
    | some y =>
      rw [hq] at hx hkk
      cases hx
      cases hkk
      exact (hk y (List.mem_of_getElem? hq)).later hb
  · rintro e w' ⟨rfl, hb'⟩
    exact ⟨rfl, hb.trans (hb'.mono hb.size)⟩
end Go.Proofs.YtnmijppppcgobaaGreatDoor
set_option linter.unusedVariables false
namespace Go.Proofs.YtnmijppppcgobaaGreatDoor
open Go.ChangeShapes Go.WideShapes Go.ChangeAt Go.RowKit

set_option maxRecDepth 100000 in
theorem implAcctIdOk_any (s : ByteArray) (w : World) (hs : s.size ≤ maxLen) :
    Calls Tryz.prog 153 #[.string s] w fun e w' => e = .returned (.bool (acctIdB s)) ∧ Below w.heap.size w w' := by
  by_cases h : s.size ≤ 19
  · have HI : Hid (acctIdB s = luOk s) := Lib.hid (by unfold acctIdB; rw [decide_eq_true h]; rfl)
    have HL := Lib.hid (fun w => implLuhnOk_any s w (by omega))
    have h' : (s.size : Int) ≤ 19 := by omega
    rw [HI.out]
    generalize luOk s = b at HL
    go_enter Tryz.func153, Tryz.ntmps153
    go_wp2_with fail
    refine (HL.out _).mono ?_
    rintro e w1 ⟨rfl, hb⟩
    go_wp2
    go_ret
    exact ⟨rfl, hb⟩
  · have HI : Hid (acctIdB s = false) := Lib.hid (by unfold acctIdB; rw [decide_eq_false h]; rfl)
    have h' : ¬ (s.size : Int) ≤ 19 := by omega
    rw [HI.out]
    go_enter Tryz.func153, Tryz.ntmps153
    go_wp2
    go_ret
    exact ⟨rfl, Below.refl _ _⟩
end Go.Proofs.YtnmijppppcgobaaGreatDoor
set_option linter.unusedVariables false
namespace Go.Proofs.YtnmijppppcgobaaGreatDoor
open Go.ChangeShapes Go.WideShapes Go.ChangeAt Go.RowKit

set_option maxRecDepth 100000 in
theorem implTime_any (n : Int) (w : World) : Calls Tryz.prog 136 #[.int .i64 n] w fun e w' => e = .returned (.bool (timeB n)) ∧ w = w' := by
  by_cases h0 : 0 ≤ n
  all_goals
    go_enter Tryz.func136, Tryz.ntmps136
    go_wp2
    go_ret
    exact ⟨by simp [timeB, inB]; omega, rfl⟩
set_option maxRecDepth 100000 in
theorem implSpan_any (n : Int) (w : World) : Calls Tryz.prog 217 #[.int .i64 n] w fun e w' => e = .returned (.bool (inB n 1 1000)) ∧ w = w' := by
  by_cases h0 : 1 ≤ n
  all_goals
    go_enter Tryz.func217, Tryz.ntmps217
    go_wp2
    go_ret
    exact ⟨by simp [inB]; omega, rfl⟩
set_option maxRecDepth 100000 in
theorem implBuckets_any (n : Int) (w : World) : Calls Tryz.prog 218 #[.int .i64 n] w fun e w' => e = .returned (.bool (inB n 1 8)) ∧ w = w' := by
  by_cases h0 : 1 ≤ n
  all_goals
    go_enter Tryz.func218, Tryz.ntmps218
    go_wp2
    go_ret
    exact ⟨by simp [inB]; omega, rfl⟩
set_option maxRecDepth 100000 in
theorem implIsMon_any (n : Int) (w : World) : Calls Tryz.prog 198 #[.int .i64 n] w fun e w' => e = .returned (.bool (isMon n)) ∧ w = w' := by
  by_cases h0 : 0 ≤ n
  all_goals
    go_enter Tryz.func198, Tryz.ntmps198
    go_wp2
    go_ret
    exact ⟨by simp [isMon]; omega, rfl⟩
set_option maxRecDepth 100000 in
set_option maxHeartbeats 1600000 in
theorem implAll_any (hi : Nat) (v : Value) (l : List Int) (w : World) (h : rd .i64 hi w v l) (hl : l.length ≤ 1048576) :
    Calls Tryz.prog 219 #[v] w fun e w' => e = .returned (.bool (l.all isMon)) ∧ w = w' := by
  obtain ⟨A, c, rfl, -⟩ := h.form
  have HC := Lib.hid h
  clear h
  go_enter Tryz.func219, Tryz.ntmps219
  go_wp2
  go_loop [7] (fun iv => ∃ i : Nat, i ≤ l.length ∧ iv = .int .i64 i ∧ Hid ((l.take i).all isMon = true)) (fun iv => l.length - (intOf iv).toNat)
  case atStart => exact ⟨0, Nat.zero_le _, rfl, Lib.hid rfl⟩
  case round =>
    obtain ⟨i, hi', rfl, HA⟩ := hrel
    by_cases hin : i < l.length
    · obtain ⟨x, hx⟩ : ∃ x, l[i]? = some x := ⟨_, List.getElem?_eq_getElem hin⟩
      obtain ⟨p, o, rfl, hp, d0⟩ := ring_at HC.out hx
      have HX := Lib.hid (all_snoc hx HA.out)
      have HMX := Lib.hid (fun w => implIsMon_any x w)
      have HLX := Lib.hid (all_fail hx)
      have g1 : (i : Int) < (l.length : Int) := by omega
      have g2 : 0 ≤ (i : Int) := by omega
      clear hx
      generalize isMon x = mx at HX HMX HLX
      cases mx
      · have HF := Lib.hid (HLX.out rfl)
        go_wp2_with fail
        refine (HMX.out _).mono ?_
        rintro e w2 ⟨rfl, rfl⟩
        go_wp2
        go_ret
        exact ⟨by rw [HF.out]; rfl, rfl⟩
      · go_wp2_with fail
        refine (HMX.out _).mono ?_
        rintro e w2 ⟨rfl, rfl⟩
        go_wp2
        go_round
        case rel => exact ⟨i + 1, by omega, by go_num, Lib.hid (HX.out trivial)⟩
        case measure => simp [intOf] <;> omega
    · obtain rfl : i = l.length := by omega
      have HF : Hid (l.all isMon = true) := Lib.hid (by have h1 := HA.out; rwa [List.take_length] at h1)
      go_wp2
      go_ret
      exact ⟨by rw [HF.out]; rfl, rfl⟩
set_option maxRecDepth 100000 in
set_option maxHeartbeats 4000000 in
theorem implRingOk_any (hi : Nat) (vc vs : Value) (r : RingD) (w : World) (hc : rd .i64 hi w vc r.2.2.1) (hs : rd .i64 hi w vs r.2.2.2) (hh : hi ≤ w.heap.size) (hlc : r.2.2.1.length ≤ 1048576) (hls : r.2.2.2.length ≤ 1048576) :
    Calls Tryz.prog 156 #[.agg #[.int .i64 r.1, .int .i64 r.2.1, vc, vs]] w fun e w' => e = .returned (.bool (ringOk r)) ∧ Below w.heap.size w w' := by
  obtain ⟨sp, hd, cs, ss⟩ := r
  simp only at hc hs hlc hls ⊢
  obtain ⟨AC, cC, rfl, hcC⟩ := hc.form
  obtain ⟨AS, cS, rfl, hcS⟩ := hs.form
  have HB0 : Hid (Below w.heap.size w (w.alloc (.cells #[.int .i64 sp, .int .i64 hd, .slice AC cs.length cC, .slice AS ss.length cS] 26))) := Lib.hid ((Below.refl _ _).alloc (Nat.le_refl _) _)
  have HE : Hid (ringOk (sp, hd, cs, ss) = ((inB sp 1 1000 && (inB (cs.length : Int) 1 8 && (((cs.length : Int) == (ss.length : Int)) && timeB hd))) && (cs.all isMon && ss.all isMon))) := Lib.hid (by
    have e : decide (ss.length = cs.length) = ((cs.length : Int) == (ss.length : Int)) := by
      by_cases h : ss.length = cs.length
      · rw [h]; simp
      · rw [decide_eq_false h]; symm; simp; omega
    rw [← e]; rfl)
  have HI1 := Lib.hid (fun w => implSpan_any sp w)
  have HI2 := Lib.hid (fun w => implBuckets_any (cs.length : Int) w)
  have HT := Lib.hid (fun w => implTime_any hd w)
  have HA1 := Lib.hid (implAll_any hi _ cs _ (hc.below HB0.out hh) hlc)
  have HA2 := Lib.hid (implAll_any hi _ ss _ (hs.below HB0.out hh) hls)
  clear hc hs
  generalize inB sp 1 1000 = b1 at HI1 HE
  generalize inB (cs.length : Int) 1 8 = b2 at HI2 HE
  generalize timeB hd = b4 at HT HE
  generalize cs.all isMon = m1 at HA1 HE
  generalize ss.all isMon = m2 at HA2 HE
  obtain ⟨d, hd5⟩ : ∃ d, d = ((cs.length : Int) == (ss.length : Int)) := ⟨_, rfl⟩
  rw [← hd5] at HE
  go_enter Tryz.func156, Tryz.ntmps156
  go_wp2_with fail
  refine (HI1.out _).mono ?_
  rintro e w1 ⟨rfl, rfl⟩
  cases b1
  · go_wp2
    go_ret
    exact ⟨by rw [HE.out]; simp, HB0.out⟩
  go_wp2_with fail
  refine (HT.out _).mono ?_
  rintro e w1 ⟨rfl, rfl⟩
  cases b4
  · go_wp2
    go_ret
    exact ⟨by rw [HE.out]; simp, HB0.out⟩
  go_wp2_with fail
  refine (HI2.out _).mono ?_
  rintro e w1 ⟨rfl, rfl⟩
  cases b2
  · go_wp2
    go_ret
    exact ⟨by rw [HE.out]; simp, HB0.out⟩
  cases d
  · replace hd5 := hd5.symm
    go_wp2
    go_ret
    exact ⟨by rw [HE.out]; simp, HB0.out⟩
  replace hd5 := hd5.symm
  go_wp2_with fail
  refine (HA1.out).mono ?_
  rintro e w1 ⟨rfl, rfl⟩
  cases m1
  · go_wp2
    go_ret
    exact ⟨by rw [HE.out]; simp, HB0.out⟩
  go_wp2_with fail
  refine (HA2.out).mono ?_
  rintro e w1 ⟨rfl, rfl⟩
  cases m2
  · go_wp2
    go_ret
    exact ⟨by rw [HE.out]; simp, HB0.out⟩
  go_wp2
  go_ret
  exact ⟨by rw [HE.out]; simp, HB0.out⟩
set_option maxRecDepth 100000 in
set_option maxHeartbeats 4000000 in
theorem implCanRoll_any (hi : Nat) (vc vs : Value) (r : RingD) (now : Int) (w : World) (hc : rd .i64 hi w vc r.2.2.1) (hs : rd .i64 hi w vs r.2.2.2) (hh : hi ≤ w.heap.size) (hlc : r.2.2.1.length ≤ 1048576) (hls : r.2.2.2.length ≤ 1048576) :
    Calls Tryz.prog 149 #[.agg #[.int .i64 r.1, .int .i64 r.2.1, vc, vs], .int .i64 now] w fun e w' => e = .returned (.bool (ringOk r && timeB now)) ∧ Below w.heap.size w w' := by
  have HB0 : Hid (Below w.heap.size w (w.alloc (.cells #[.int .i64 r.1, .int .i64 r.2.1, vc, vs] 26))) := Lib.hid ((Below.refl _ _).alloc (Nat.le_refl _) _)
  have HO := Lib.hid (implRingOk_any hi vc vs r _ (hc.below HB0.out hh) (hs.below HB0.out hh) (Nat.le_trans hh HB0.out.size) hlc hls)
  have HT := Lib.hid (fun w => implTime_any now w)
  obtain ⟨AC, cC, rfl, hcC⟩ := hc.form
  obtain ⟨AS, cS, rfl, hcS⟩ := hs.form
  clear hc hs
  generalize ringOk r = ok at HO
  generalize timeB now = tm at HT
  cases ok
  · go_enter Tryz.func149, Tryz.ntmps149
    go_wp2_with fail
    refine (HO.out).mono ?_
    rintro e w1 ⟨rfl, hb⟩
    go_wp2
    go_ret
    exact ⟨rfl, HB0.out.trans (hb.mono (by simp))⟩
  · go_enter Tryz.func149, Tryz.ntmps149
    go_wp2_with fail
    refine (HO.out).mono ?_
    rintro e w1 ⟨rfl, hb⟩
    go_wp2_with fail
    refine (HT.out _).mono ?_
    rintro e w2 ⟨rfl, rfl⟩
    go_wp2
    go_ret
    exact ⟨rfl, HB0.out.trans (hb.mono (by simp))⟩
end Go.Proofs.YtnmijppppcgobaaGreatDoor
set_option linter.unusedVariables false
namespace Go.Proofs.YtnmijppppcgobaaGreatDoor
open Go.ChangeShapes Go.WideShapes Go.ChangeAt Go.RowKit

/-- the library's handle of the type error -/
def Handle (w : World) : Prop := w.cell? ⟨1, 0, none⟩ = some (.iface RT (.agg #[.pointer (some ⟨6, ER, none⟩)]))
set_option maxRecDepth 100000 in
theorem Handle.lt {w : World} (h : Handle w) : 1 < w.heap.size := by
  unfold Handle at h
  rcases Nat.lt_or_ge 1 w.heap.size with h' | h'
  · exact h'
  · simp [World.cell?, Array.getElem?_eq_none h'] at h
set_option maxRecDepth 100000 in
theorem Handle.below {w w' : World} {B : Nat} (h : Handle w) (hb : Below B w w') (hB : w.heap.size ≤ B) : Handle w' := (hb.cell (p := ⟨_, _, none⟩) (show 1 < B by have := h.lt; omega)).trans h
set_option maxRecDepth 100000 in
theorem Handle.turned {w w' : World} {lo hi : Nat} (h : Handle w) (ht : Turned lo hi w w') (hb : 1 < lo ∨ hi ≤ 1) : Handle w' := (cell_keep (ht.block _ h.lt hb)).trans h
set_option maxRecDepth 100000 in
theorem Handle.ne {w : World} {b : Nat} {T : TypeId} {CS : List Value} {x : Int} (h : Handle w) (hb : bk w b T CS) (h0 : CS[0]? = some (.int .i64 x)) : b ≠ 1 := fun e => by
  subst e
  have h1 := hb.cell 0
  unfold Handle at h
  rw [h, h0] at h1
  cases h1
end Go.Proofs.YtnmijppppcgobaaGreatDoor
set_option linter.unusedVariables false
namespace Go.Proofs.YtnmijppppcgobaaGreatDoor
open Go.ChangeShapes Go.WideShapes Go.ChangeAt Go.RowKit

set_option maxRecDepth 100000 in
theorem implLimit_any (n : Int) (w : World) : Calls Tryz.prog 215 #[.int .i64 n] w fun e w' => e = .returned (.bool (inB n 0 9007199254740992)) ∧ w = w' := by
  by_cases h0 : 0 ≤ n
  all_goals
    go_enter Tryz.func215, Tryz.ntmps215
    go_wp2
    go_ret
    exact ⟨by simp [inB]; omega, rfl⟩
/-- are the four numbers in their ranges -/
def amtsB (l p m s : Int) : Bool := inB l 0 9007199254740992 && (isMon p && (inB m 0 1000 && inB s 0 9007199254740992))
set_option maxRecDepth 100000 in
set_option maxHeartbeats 1600000 in
theorem implInRange_any (l p m s : Int) (w : World) :
    Calls Tryz.prog 154 #[.agg #[.int .i64 l, .int .i64 p, .int .i64 m, .int .i64 s]] w fun e w' => e = .returned (.bool (amtsB l p m s)) ∧ Below w.heap.size w w' := by
  have HE : Hid (amtsB l p m s = (inB l 0 9007199254740992 && (isMon p && (inB m 0 1000 && inB s 0 9007199254740992)))) := Lib.hid rfl
  have H1 := Lib.hid (fun w => implLimit_any l w)
  have H2 := Lib.hid (fun w => implIsMon_any p w)
  have H3 := Lib.hid (fun w => implLimit_any s w)
  have HM : Hid (inB m 0 1000 = (decide (0 ≤ m) && decide (m ≤ 1000))) := Lib.hid (by unfold inB; rw [Bool.decide_and])
  have HB0 : Hid (∀ o, Below w.heap.size w (w.alloc o)) := Lib.hid fun o => (Below.refl _ _).alloc (Nat.le_refl _) _
  generalize inB l 0 9007199254740992 = b1 at HE H1
  generalize isMon p = b2 at HE H2
  generalize inB s 0 9007199254740992 = b4 at HE H3
  rw [HM.out] at HE
  generalize amtsB l p m s = res at HE ⊢
  go_enter Tryz.func154, Tryz.ntmps154
  go_wp2_with fail
  refine (H1.out _).mono ?_
  rintro e w1 ⟨rfl, rfl⟩
  cases b1
  · go_wp2
    go_ret
    exact ⟨by rw [HE.out]; rfl, HB0.out _⟩
  go_wp2_with fail
  refine (H2.out _).mono ?_
  rintro e w1 ⟨rfl, rfl⟩
  cases b2
  · go_wp2
    go_ret
    exact ⟨by rw [HE.out]; rfl, HB0.out _⟩
  by_cases m0 : 0 ≤ m
  rotate_left
  · have HN := Lib.hid (HE.out.trans (show _ = false by rw [decide_eq_false m0]; rfl))
    go_wp2
    go_ret
    exact ⟨by rw [HN.out]; rfl, HB0.out _⟩
  by_cases m1 : m ≤ 1000
  rotate_left
  · have HN := Lib.hid (HE.out.trans (show _ = false by rw [decide_eq_false m1]; simp))
    go_wp2
    go_ret
    exact ⟨by rw [HN.out]; rfl, HB0.out _⟩
  have HN := Lib.hid (HE.out.trans (show _ = b4 by rw [decide_eq_true m1, decide_eq_true m0]; rfl))
  go_wp2_with fail
  refine (H3.out _).mono ?_
  rintro e w1 ⟨rfl, rfl⟩
  go_wp2
  go_ret
  exact ⟨by rw [HN.out]; rfl, HB0.out _⟩
set_option maxRecDepth 100000 in
theorem implRest_any (l p m s h : Int) (w : World) (h1 : -9223372036854775808 ≤ l - p) (h2 : l - p ≤ 9223372036854775807) (h3 : -9223372036854775808 ≤ l - p - h) (h4 : l - p - h ≤ 9223372036854775807) :
    Calls Tryz.prog 69 #[.agg #[.int .i64 l, .int .i64 p, .int .i64 m, .int .i64 s], .int .i64 h] w fun e w' => e = .returned (.int .i64 (l - p - h)) ∧ Below w.heap.size w w' := by
  have e1 : IntKind.i64.wrap (l - p) = l - p := IntWalk.i64_in _ (by omega)
  have e2 : IntKind.i64.wrap (l - p - h) = l - p - h := IntWalk.i64_in _ (by omega)
  clear h1 h2 h3 h4
  go_enter Tryz.func69, Tryz.ntmps69
  go_wp2
  go_ret
  exact ⟨rfl, (Below.refl _ _).alloc (Nat.le_refl _) _⟩
set_option maxRecDepth 100000 in
theorem implCovers_any (l p m s h : Int) (w : World) (hg : Handle w) :
    Calls Tryz.prog 158 #[.agg #[.int .i64 l, .int .i64 p, .int .i64 m, .int .i64 s], .int .i64 h] w fun e w' => e = .returned (.bool (decide (satVal p h ≤ l))) ∧ Below w.heap.size w w' := by
  have HB0 : Hid (Below w.heap.size w (w.alloc (.cells #[.int .i64 l, .int .i64 p, .int .i64 m, .int .i64 s] 95))) := Lib.hid ((Below.refl _ _).alloc (Nat.le_refl _) _)
  have b0 := bk.new w 95 [.int .i64 l, .int .i64 p, .int .i64 m, .int .i64 s]
  have b0 : bk (w.alloc (.cells #[.int .i64 l, .int .i64 p, .int .i64 m, .int .i64 s] 95)) w.heap.size 95 [.int .i64 l, .int .i64 p, .int .i64 m, .int .i64 s] := b0
  have HSA := Lib.hid (fun W (hW : Below w.heap.size w W) => implSat_any p h W (hg.below hW (Nat.le_refl _)))
  generalize satVal p h = sv at HSA ⊢
  go_enter Tryz.func158, Tryz.ntmps158
  go_upto_region 1 with fail
  obtain ⟨W, hW⟩ : ∃ W, W = w.alloc (.cells #[.int .i64 l, .int .i64 p, .int .i64 m, .int .i64 s] 95) := ⟨_, rfl⟩
  rw [← hW] at HB0 b0 ⊢
  clear hW hg
  obtain ⟨⟨p0, p1, p2, p3⟩, -⟩ := b0.cells
  have z0 := b0.lt
  have P0 := Lib.hid p0
  have P1 := Lib.hid p1
  clear p0 p1 p2 p3 b0
  have HBX : Hid (∀ V, Ext W V → Below w.heap.size w V) := Lib.hid fun V hV => HB0.out.trans (hV.below.mono (by omega))
  have HX : Hid (Ext W W.drew) := Lib.hid (Ext.refl W).drew
  by_cases hle : sv ≤ l
  all_goals
    refine quiet_region (C := Ext W) (by kernel_rfl) (by kernel_rfl) HX.out ?_
    repeat (first
      | go_big_quiet_skip
      | (go_big_quiet_want; go_big_quiet_op; go_big_quiet_on)
      | (go_big_quiet_want; go_big_quiet_op; apply Exists.intro; refine ⟨fun _ _ => rfl, ?_⟩; go_big_quiet_on)
      | (go_big_quiet_want
         apply Exists.intro
         refine ⟨fun V hV => ?_, ?_⟩
         (have q0 := hV.cell P0.out (by omega)
          have q1 := hV.cell P1.out (by omega)
          unfold Oper.quietAt
          go_simp
          rfl)
         simp only [Act.put, List.setIfInBounds_toArray, List.set_cons_zero, List.set_cons_succ]
         go_big_quiet_on)
      | (go_big_quiet_want
         apply Exists.intro
         refine ⟨fun V hV => ?_, ?_⟩
         (unfold Oper.quietAt
          go_simp
          go_at_call 70
          refine (HSA.out V (HBX.out V hV)).mono ?_
          rintro e w4 ⟨rfl, hb4⟩
          exact ⟨rfl, hV.step hb4⟩)
         simp only [Act.put, List.setIfInBounds_toArray, List.set_cons_zero, List.set_cons_succ]
         go_big_quiet_on)
      | fail)
    refine wpQuiet_nil ?_
    intro W4 hW4
    go_wp2
    go_ret
    exact ⟨by simp [hle], HBX.out W4 hW4⟩
end Go.Proofs.YtnmijppppcgobaaGreatDoor
set_option linter.unusedVariables false
namespace Go.Proofs.YtnmijppppcgobaaGreatDoor
open Go.ChangeShapes Go.WideShapes Go.ChangeAt Go.RowKit

set_option maxRecDepth 100000 in
set_option maxHeartbeats 1600000 in
/-- an account's cells as the program's own account holds them -/
theorem implAccountOf_any (id : ByteArray) (l p m s : Int) (A1 : Option Addr) (n1 c1 : Nat) (rs rh : Int) (A2 : Option Addr) (n2 c2 : Nat) (A3 : Option Addr) (n3 c3 : Nat) (A4 : Option Addr) (n4 c4 : Nat) (w : World) :
    Calls Tryz.prog 68 #[.agg #[.string id, .int .i64 l, .int .i64 p, .int .i64 m, .int .i64 s, .slice A1 n1 c1, .int .i64 rs, .int .i64 rh, .slice A2 n2 c2, .slice A3 n3 c3, .slice A4 n4 c4]] w fun e w' => e = .returned (.agg #[.int .i64 l, .int .i64 p, .int .i64 m, .int .i64 s, .string id, .slice A1 n1 c1, .int .i64 rs, .int .i64 rh, .slice A2 n2 c2, .slice A3 n3 c3, .slice A4 n4 c4]) ∧ Below w.heap.size w w' := by
  go_enter Tryz.func68, Tryz.ntmps68
  go_upto_region 1 with fail
  obtain ⟨W, hW⟩ : ∃ W, W = (w.alloc (.cells #[.string id, .int .i64 l, .int .i64 p, .int .i64 m, .int .i64 s, .slice A1 n1 c1, .int .i64 rs, .int .i64 rh, .slice A2 n2 c2, .slice A3 n3 c3, .slice A4 n4 c4] 29)).alloc (.cells #[.int .i64 0, .int .i64 0, .int .i64 0, .int .i64 0, .string ⟨#[]⟩, .slice none 0 0, .int .i64 0, .int .i64 0, .slice none 0 0, .slice none 0 0, .slice none 0 0] 97) := ⟨_, rfl⟩
  have b0 : bk W w.heap.size 29 [.string id, .int .i64 l, .int .i64 p, .int .i64 m, .int .i64 s, .slice A1 n1 c1, .int .i64 rs, .int .i64 rh, .slice A2 n2 c2, .slice A3 n3 c3, .slice A4 n4 c4] := by rw [hW]; exact (bk.new w _ _).alloc _
  have b1 : bk W (w.heap.size + 1) 97 [.int .i64 0, .int .i64 0, .int .i64 0, .int .i64 0, .string ⟨#[]⟩, .slice none 0 0, .int .i64 0, .int .i64 0, .slice none 0 0, .slice none 0 0, .slice none 0 0] := by rw [hW]; simpa using bk.new (w.alloc _) 97 [.int .i64 0, .int .i64 0, .int .i64 0, .int .i64 0, .string ⟨#[]⟩, .slice none 0 0, .int .i64 0, .int .i64 0, .slice none 0 0, .slice none 0 0, .slice none 0 0]
  have HB : Hid (Below w.heap.size w W) := Lib.hid (by rw [hW]; exact ((Below.refl _ _).alloc (Nat.le_refl _) _).alloc (by simp) _)
  have z : w.heap.size + 2 ≤ W.heap.size := by rw [hW]; simp
  rw [← hW]
  clear hW
  obtain ⟨⟨p0, p1, p2, p3, p4, p5, p6, p7, p8, p9, p10⟩, -⟩ := b0.eleven
  obtain ⟨⟨r0, r1, r2, r3, r4, r5, r6, r7, r8, r9, r10⟩, g0, g1, g2, g3, g4, g5, g6, g7, g8, g9, g10⟩ := b1.eleven
  clear b0 b1
  go_wp2
  refine bodyPost_ret (v := .agg #[.int .i64 l, .int .i64 p, .int .i64 m, .int .i64 s, .string id, .slice A1 n1 c1, .int .i64 rs, .int .i64 rh, .slice A2 n2 c2, .slice A3 n3 c3, .slice A4 n4 c4]) (by simp [results, Tryz.results68, go_sem, r0, r1, r2, r3, r4, r5, r6, r7, r8, r9, r10]) rfl ?_
  refine ⟨rfl, ?_⟩
  repeat (refine Below.setCell ?_ (by simp <;> omega) _)
  exact HB.out
end Go.Proofs.YtnmijppppcgobaaGreatDoor
set_option linter.unusedVariables false
namespace Go.Proofs.YtnmijppppcgobaaGreatDoor
open Go.ChangeShapes Go.WideShapes Go.ChangeAt Go.RowKit

set_option maxRecDepth 100000 in
theorem empty_yes (s : ByteArray) (h : ¬ 0 < s.size) : s.toList.isEmpty = true := by
  have := not_empty s
  rw [decide_eq_false h] at this
  simpa using this
set_option maxRecDepth 100000 in
theorem empty_no (s : ByteArray) (h : 0 < s.size) : s.toList.isEmpty = false := by
  have := not_empty s
  rw [decide_eq_true h] at this
  simpa using this
end Go.Proofs.YtnmijppppcgobaaGreatDoor
set_option linter.unusedVariables false
namespace Go.Proofs.YtnmijppppcgobaaGreatDoor
open Go.ChangeShapes Go.WideShapes Go.ChangeAt Go.RowKit

set_option maxRecDepth 100000 in
/-- a small letter, at a place: its character -/
theorem rune_low (s : ByteArray) (pos : Nat) (h : pos < s.size) (hd : isDig s[pos] = false) (hc : idCh s[pos] = true) : Utf8.decode s pos = (s[pos].toNat, 1) ∧ runeDig (s[pos].toNat : Int) = false ∧ (97 : Int) ≤ (s[pos].toNat : Int) ∧ (s[pos].toNat : Int) ≤ 122 := by
  have h1 := (isDig_no _).1 hd
  have h2 : 48 ≤ s[pos].toNat ∧ s[pos].toNat ≤ 57 ∨ 97 ≤ s[pos].toNat ∧ s[pos].toNat ≤ 122 := of_decide_eq_true hc
  have h3 : 97 ≤ s[pos].toNat ∧ s[pos].toNat ≤ 122 := by omega
  exact ⟨decode_ascii s pos h (by omega), by simp [runeDig]; omega, by omega, by omega⟩
set_option maxRecDepth 100000 in
/-- no sign of an id, at a place: its character -/
theorem rune_none (s : ByteArray) (pos : Nat) (h : pos < s.size) (hc : idCh s[pos] = false) : runeDig ((Utf8.decode s pos).1 : Int) = false ∧ (((Utf8.decode s pos).1 : Int) < 97 ∨ 122 < ((Utf8.decode s pos).1 : Int)) := by
  have h2 : ¬ (48 ≤ s[pos].toNat ∧ s[pos].toNat ≤ 57 ∨ 97 ≤ s[pos].toNat ∧ s[pos].toNat ≤ 122) := of_decide_eq_false hc
  rcases Nat.lt_or_ge s[pos].toNat 128 with h1 | h1
  · rw [decode_ascii s pos h h1]
    exact ⟨by simp [runeDig]; omega, by show (s[pos].toNat : Int) < 97 ∨ 122 < (s[pos].toNat : Int); omega⟩
  · have := (decode_high s pos h h1).1
    exact ⟨by simp [runeDig]; omega, .inr (by omega)⟩
set_option maxRecDepth 100000 in
theorem idOk_end {s : ByteArray} {k : Nat} (hk : ¬ k < s.size) (h : (s.data.toList.take k).all idCh = true) : idOk s = decide (0 < s.size ∧ s.size ≤ 6) := by
  rw [take_end s k hk] at h
  rw [idOk_yes h]
  unfold inB
  exact decide_eq_decide.2 ⟨fun ⟨_, _⟩ => ⟨by omega, by omega⟩, fun ⟨_, _⟩ => ⟨by omega, by omega⟩⟩
set_option maxRecDepth 100000 in
set_option maxHeartbeats 1600000 in
theorem implHoldIdOk_any (s : ByteArray) (w : World) (hs : s.size ≤ maxLen) :
    Calls Tryz.prog 122 #[.string s] w fun e w' => e = .returned (.bool (idOk s)) ∧ Below w.heap.size w w' := by
  unfold maxLen at hs
  go_enter Tryz.func122, Tryz.ntmps122
  go_wp2
  go_loopw [2] (fun _ wr => ∃ k : Nat, k ≤ s.size ∧ wr = w.iter s k ∧ (s.data.toList.take k).all idCh = true) (fun _ wr => s.size - wr.iterPos w.heap.size)
  case atStart => exact ⟨0, Nat.zero_le _, rfl, rfl⟩
  case round =>
    obtain ⟨k, hk, rfl, ha0⟩ := hrel
    have ha := Lib.hid ha0
    clear ha0
    by_cases hlt : k < s.size
    · cases hc : idCh s[k]
      · obtain ⟨hr, hr2⟩ := rune_none s k hlt hc
        have HF := Lib.hid (idOk_not (all_not (p := idCh) hlt hc))
        have hnx : ∀ ty, (Instr.next (.pointer (some ⟨w.heap.size, 0, none⟩)) true ty).run Tryz.prog (w.iter s k) = _ := fun ty => run_next_any w s k ty hlt
        generalize hq : Utf8.decode s k = q at hnx hr hr2
        obtain ⟨r, wd⟩ := q
        clear hq
        simp only at hr hr2
        rcases hr2 with hr2 | hr2
        · go_wp2_with (go_at_call 196; refine (isDigit_any _ _).mono ?_; rintro e w' ⟨rfl, rfl⟩)
          go_ret
          exact ⟨ret_bool HF.out.symm, below_iter _ _ _⟩
        · have hr3 : ¬ (r : Int) < 97 := by omega
          go_wp2_with (go_at_call 196; refine (isDigit_any _ _).mono ?_; rintro e w' ⟨rfl, rfl⟩)
          go_ret
          exact ⟨ret_bool HF.out.symm, below_iter _ _ _⟩
      · have hb := Lib.hid (all_step (p := idCh) hlt ha.out hc)
        have hnx : ∀ ty, (Instr.next (.pointer (some ⟨w.heap.size, 0, none⟩)) true ty).run Tryz.prog (w.iter s k) = _ := fun ty => run_next_any w s k ty hlt
        cases hd : isDig s[k]
        · obtain ⟨hdec, hr, hr2, hr3⟩ := rune_low s k hlt hd hc
          rw [hdec] at hnx
          clear hdec hd hc
          go_wp2_with (go_at_call 196; refine (isDigit_any _ _).mono ?_; rintro e w' ⟨rfl, rfl⟩)
          go_roundw
          case rel => exact ⟨k + 1, by omega, rfl, hb.out⟩
          case measure => simp <;> omega
        · obtain ⟨hdec, hr⟩ := rune_dig s k hlt hd
          rw [hdec] at hnx
          clear hdec hd hc
          go_wp2_with (go_at_call 196; refine (isDigit_any _ _).mono ?_; rintro e w' ⟨rfl, rfl⟩)
          go_roundw
          case rel => exact ⟨k + 1, by omega, rfl, hb.out⟩
          case measure => simp <;> omega
    · have HV := Lib.hid (idOk_end hlt ha.out)
      have hnx : ∀ ty, (Instr.next (.pointer (some ⟨w.heap.size, 0, none⟩)) true ty).run Tryz.prog (w.iter s k) = _ := fun ty => run_next_end w s k ty hlt
      by_cases h0 : 0 < s.size
      · have hE := empty_no s h0
        go_wp2
        go_ret
        exact ⟨ret_bool (by rw [HV.out]; exact decide_eq_decide.2 ⟨fun _ => ⟨h0, by omega⟩, fun _ => by omega⟩), below_iter _ _ _⟩
      · have hE := empty_yes s h0
        go_wp2
        go_ret
        exact ⟨ret_bool (by rw [HV.out]; exact (decide_eq_false (fun h => h0 h.1)).symm), below_iter _ _ _⟩
set_option maxRecDepth 100000 in
set_option maxHeartbeats 1600000 in
theorem implHoldOk_any (x : HoldD) (w : World) (hs : x.1.size ≤ maxLen) :
    Calls Tryz.prog 216 #[.agg #[.string x.1, .int .i64 x.2.1, .int .i64 x.2.2]] w fun e w' => e = .returned (.bool (holdOk x)) ∧ Below w.heap.size w w' := by
  obtain ⟨id, am, du⟩ := x
  have HI := Lib.hid (fun w => implHoldIdOk_any id w hs)
  have HT := Lib.hid (fun w => implTime_any du w)
  have HD : Hid (holdOk (id, am, du) = (idOk id && (inB am 1 9007199254740992 && timeB du))) := Lib.hid rfl
  have HA1 : Hid (inB am 1 9007199254740992 = (decide (1 ≤ am) && decide (am ≤ 9007199254740992))) := Lib.hid (Bool.decide_and ..)
  clear hs
  generalize idOk id = b1 at HI HD
  generalize timeB du = b3 at HT HD
  obtain ⟨W, hW⟩ : ∃ W, W = w.alloc (.cells #[.string id, .int .i64 am, .int .i64 du] 33) := ⟨_, rfl⟩
  have b0 : bk W w.heap.size 33 [.string id, .int .i64 am, .int .i64 du] := by rw [hW]; exact bk.new w _ _
  have HB0 : Hid (Below w.heap.size w W) := Lib.hid (by rw [hW]; exact (Below.refl _ _).alloc (Nat.le_refl _) _)
  have z0 := b0.lt
  go_enter Tryz.func216, Tryz.ntmps216
  go_upto_region 1 with fail
  rw [← hW]
  clear hW
  obtain ⟨p0, p1, p2⟩ := b0.cells3
  go_wp2_with fail
  refine (HI.out _).mono ?_
  rintro e w1 ⟨rfl, hb1⟩
  have HB1 : Hid (Below w.heap.size w w1) := Lib.hid (HB0.out.trans (hb1.mono (by omega)))
  replace b0 := b0.below hb1 z0
  clear hb1 p0 p1 p2
  obtain ⟨p0, p1, p2⟩ := b0.cells3
  clear b0
  cases b1
  · have HV : Hid (holdOk (id, am, du) = false) := Lib.hid (by rw [HD.out]; rfl)
    go_wp2
    go_ret
    exact ⟨ret_bool HV.out.symm, HB1.out⟩
  by_cases h1 : 1 ≤ am
  · by_cases h2 : am ≤ 9007199254740992
    · have HV : Hid (holdOk (id, am, du) = b3) := Lib.hid (by rw [HD.out, HA1.out, decide_eq_true h1, decide_eq_true h2]; rfl)
      go_wp2_with fail
      refine (HT.out _).mono ?_
      rintro e w2 ⟨rfl, rfl⟩
      go_wp2
      go_ret
      exact ⟨ret_bool HV.out.symm, HB1.out⟩
    · have HV : Hid (holdOk (id, am, du) = false) := Lib.hid (by rw [HD.out, HA1.out, decide_eq_false h2, Bool.and_false]; rfl)
      go_wp2
      go_ret
      exact ⟨ret_bool HV.out.symm, HB1.out⟩
  · have HV : Hid (holdOk (id, am, du) = false) := Lib.hid (by rw [HD.out, HA1.out, decide_eq_false h1]; rfl)
    go_wp2
    go_ret
    exact ⟨ret_bool HV.out.symm, HB1.out⟩
set_option maxRecDepth 100000 in
theorem implLive_any (x : HoldD) (now : Int) (w : World) :
    Calls Tryz.prog 20 #[.agg #[.string x.1, .int .i64 x.2.1, .int .i64 x.2.2], .int .i64 now] w fun e w' => e = .returned (.bool (live now x)) ∧ Below w.heap.size w w' := by
  have HB0 : Hid (Below w.heap.size w (w.alloc (.cells #[.string x.1, .int .i64 x.2.1, .int .i64 x.2.2] 33))) := Lib.hid ((Below.refl _ _).alloc (Nat.le_refl _) _)
  go_enter Tryz.func20, Tryz.ntmps20
  go_wp2
  go_ret
  exact ⟨rfl, HB0.out⟩
end Go.Proofs.YtnmijppppcgobaaGreatDoor
set_option linter.unusedVariables false
namespace Go.Proofs.YtnmijppppcgobaaGreatDoor
open Go.ChangeShapes Go.WideShapes Go.ChangeAt Go.RowKit

set_option maxRecDepth 100000 in
set_option maxHeartbeats 1600000 in
theorem implHoldsOk_any (hi : Nat) (v : Value) (l : List HoldD) (w : World) (hn : l.length ≤ 1048576) (hs : ∀ x ∈ l, x.1.size ≤ maxLen) (h : HoldsR.rd hi w [v] l) (hh : hi ≤ w.heap.size) :
    Calls Tryz.prog 155 #[v] w fun e w' => e = .returned (.bool (holdsOk l)) ∧ Below w.heap.size w w' := by
  obtain ⟨A, c, rfl, hc, h⟩ := holds_rd h
  have HR := Lib.hid h
  have HS := Lib.hid hs
  clear h hs
  by_cases hbig : 4 < l.length
  · have HV : Hid (holdsOk l = false) := Lib.hid (by unfold holdsOk; rw [decide_eq_false (by omega), Bool.and_false])
    have g0 : (4 : Int) < (l.length : Int) := by omega
    go_enter Tryz.func155, Tryz.ntmps155
    go_wp2
    go_ret
    exact ⟨ret_bool HV.out.symm, Below.refl _ _⟩
  have g0 : ¬ (4 : Int) < (l.length : Int) := by omega
  have HST : Hid (Value.string ⟨#[]⟩ = .string (befH l 0)) := Lib.hid rfl
  go_enter Tryz.func155, Tryz.ntmps155
  go_wp2
  go_loopw [3, 11] (fun bv iv wr => ∃ i : Nat, i ≤ l.length ∧ iv = .int .i64 i ∧ bv = .string (befH l i) ∧ Hid ((List.range i).all (holdAtOk l) = true) ∧ Hid (Below w.heap.size w wr) ∧ w.heap.size ≤ wr.heap.size) (fun _ iv _ => l.length - (intOf iv).toNat)
  case atStart => exact ⟨0, Nat.zero_le _, rfl, HST.out, Lib.hid rfl, Lib.hid (Below.refl _ _), Nat.le_refl _⟩
  case round =>
    obtain ⟨i, hi', rfl, rfl, HN, HB, hz⟩ := hrel
    by_cases hin : i < l.length
    · obtain ⟨x, hx⟩ : ∃ x, l[i]? = some x := ⟨_, List.getElem?_eq_getElem hin⟩
      obtain ⟨b, off, rfl, hbl, c0, c1, c2⟩ := HR.out i x hx
      have HXD := Lib.hid (holdAt_bef hx)
      have HNX := Lib.hid (befH_next hx)
      have hxs := HS.out x (List.mem_of_getElem? hx)
      have HOK := Lib.hid (fun W => implHoldOk_any x W hxs)
      have HNO := Lib.hid (fun h => holds_ok_not (l := l) hin h)
      have HSN := Lib.hid (fun h => range_snoc (l := l) HN.out h)
      clear hx
      generalize befH l i = bf at HXD
      generalize holdOk x = hk at HXD HOK
      have c0 := (HB.out.cell (p := ⟨b, off + i * 3, none⟩) (show b < w.heap.size by omega)).trans c0
      have c1 := (HB.out.cell (p := ⟨b, off + i * 3 + 1, none⟩) (show b < w.heap.size by omega)).trans c1
      have c2 := (HB.out.cell (p := ⟨b, off + i * 3 + 2, none⟩) (show b < w.heap.size by omega)).trans c2
      have g1 : (i : Int) < (l.length : Int) := by omega
      have g2 : 0 ≤ (i : Int) := by omega
      go_upto_region 7 with fail
      obtain ⟨W, hW⟩ : ∃ W, W = wr.alloc (.cells #[.string x.1, .int .i64 x.2.1, .int .i64 x.2.2] 33) := ⟨_, rfl⟩
      have b0 : bk W wr.heap.size 33 [.string x.1, .int .i64 x.2.1, .int .i64 x.2.2] := by rw [hW]; exact bk.new wr _ _
      have HB0 : Hid (Below w.heap.size w W) := Lib.hid (by rw [hW]; exact HB.out.alloc hz _)
      have z0 := b0.lt
      rw [← hW]
      clear hW c0 c1 c2
      obtain ⟨p0, p1, p2⟩ := b0.cells3
      go_wp2_with fail
      refine (HOK.out _).mono ?_
      rintro e w1 ⟨rfl, hb1⟩
      have HB1 : Hid (Below w.heap.size w w1) := Lib.hid (HB0.out.trans (hb1.mono (by omega)))
      have z1 := hb1.size
      replace b0 := b0.below hb1 z0
      clear hb1 p0 p1 p2
      obtain ⟨p0, p1, p2⟩ := b0.cells3
      clear b0
      cases hk
      · have HF : Hid (holdsOk l = false) := Lib.hid (HNO.out (by rw [HXD.out]; rfl))
        go_wp2
        go_ret
        exact ⟨ret_bool HF.out.symm, HB1.out⟩
      rcases str_cmp x.1 bf with ⟨-, h2, h3, h4⟩ | ⟨-, h2⟩ | ⟨-, h2, h3, h4⟩
      · have HF : Hid (holdsOk l = false) := Lib.hid (HNO.out (by rw [HXD.out, h3]; rfl))
        have h5 : Op.bytesLess x.1.toList bf.toList = true := h2
        clear h2 h3 h4
        go_wp2
        go_ret
        exact ⟨ret_bool HF.out.symm, HB1.out⟩
      · have HF : Hid (holdsOk l = false) := Lib.hid (HNO.out (by rw [HXD.out, h2, strLt_irrefl]; rfl))
        have h5 : (x.1.toList == bf.toList) = true := by rw [h2]; simp
        clear h2
        go_wp2
        go_ret
        exact ⟨ret_bool HF.out.symm, HB1.out⟩
      · have HT : Hid ((List.range (i + 1)).all (holdAtOk l) = true) := Lib.hid (HSN.out (by rw [HXD.out, h2]; rfl))
        have h5 : Op.bytesLess x.1.toList bf.toList = false := h3
        have h6 : (x.1.toList == bf.toList) = false := by simpa using fun e => h4 (str_eq_list.1 e)
        have h7 : ¬ x.1.toList = bf.toList := fun e => h4 (str_eq_list.1 e)
        clear h2 h3 h4
        go_wp2
        go_roundw
        case rel => exact ⟨i + 1, by omega, by go_num, by rw [HNX.out], HT, HB1, by omega⟩
        case measure => simp [intOf] <;> omega
    · obtain rfl : i = l.length := by omega
      have HV : Hid (holdsOk l = true) := Lib.hid (by rw [holds_ok_end HN.out]; exact decide_eq_true (by omega))
      go_wp2
      go_ret
      exact ⟨ret_bool HV.out.symm, HB.out⟩
end Go.Proofs.YtnmijppppcgobaaGreatDoor
set_option linter.unusedVariables false
namespace Go.Proofs.YtnmijppppcgobaaGreatDoor
open Go.ChangeShapes Go.WideShapes Go.ChangeAt Go.RowKit

/-- the holds that stay -/
def staysP (p : HoldD → Bool) (l : List HoldD) : List HoldD := l.filter fun x => !p x
set_option maxRecDepth 100000 in
theorem stays_all {p : HoldD → Bool} {l : List HoldD} (h : ∀ x ∈ l, p x = false) : staysP p l = l := List.filter_eq_self.2 fun x hx => by rw [h x hx]; rfl
set_option maxRecDepth 100000 in
theorem stays_next {p : HoldD → Bool} {l : List HoldD} {j : Nat} {x : HoldD} (hx : l[j]? = some x) : staysP p (l.take (j + 1)) = if p x = true then staysP p (l.take j) else staysP p (l.take j) ++ [x] := by
  obtain ⟨hj, rfl⟩ := List.getElem?_eq_some_iff.1 hx
  unfold staysP
  rw [List.take_succ_eq_append_getElem hj, List.filter_append]
  cases hp : p l[j] <;> simp [hp]
set_option maxRecDepth 100000 in
theorem findP_cases (p : HoldD → Bool) (l : List HoldD) : (findP p l = -1 ∧ ∀ x ∈ l, p x = false) ∨ ∃ (i : Nat) (x : HoldD), l[i]? = some x ∧ findP p l = (i : Int) ∧ p x = true ∧ ∀ y ∈ l.take i, p y = false := by
  unfold findP
  cases h : l.findIdx? p with
  | none => exact .inl ⟨rfl, List.findIdx?_eq_none_iff.1 h⟩
  | some i =>
    obtain ⟨hi, h1, h2⟩ := List.findIdx?_eq_some_iff_getElem.1 h
    refine .inr ⟨i, l[i], List.getElem?_eq_getElem hi, rfl, h1, fun y hy => ?_⟩
    obtain ⟨k, hk, rfl⟩ := List.mem_take_iff_getElem.1 hy
    have := h2 k (by omega)
    simpa using this
/-- n holds in block g, the first i of them those of l's first j that stay, from j on l's own -/
def cutH (p : HoldD → Bool) (l : List HoldD) (g i j : Nat) (w : World) : Prop := ∃ L : List HoldD, L.length = l.length ∧ L.take i = staysP p (l.take j) ∧ L.drop j = l.drop j ∧ i < j ∧ j ≤ l.length ∧ filled w g 0 3 l.length l.length fun k => hCells (L.getD k noH)
set_option maxRecDepth 100000 in
theorem cutH.keep {p : HoldD → Bool} {l : List HoldD} {g i j : Nat} {w w' : World} (h : cutH p l g i j w) (hk : w'.heap[g]? = w.heap[g]?) : cutH p l g i j w' := by
  obtain ⟨L, h1, h2, h3, h4, h5, h6⟩ := h
  exact ⟨L, h1, h2, h3, h4, h5, h6.keep hk⟩
set_option maxRecDepth 100000 in
theorem cutH.lt {p : HoldD → Bool} {l : List HoldD} {g i j : Nat} {w : World} (h : cutH p l g i j w) : i < j ∧ j ≤ l.length := by
  obtain ⟨L, h1, h2, h3, h4, h5, h6⟩ := h
  exact ⟨h4, h5⟩
set_option maxRecDepth 100000 in
theorem cutH.start {p : HoldD → Bool} {l : List HoldD} {g i : Nat} {w : World} {x : HoldD} (hx : l[i]? = some x) (he : p x = true) (h : ∀ y ∈ l.take i, p y = false) (hr : filled w g 0 3 l.length l.length fun k => hCells (l.getD k noH)) : cutH p l g i (i + 1) w := by
  have hi := (List.getElem?_eq_some_iff.1 hx).1
  refine ⟨l, rfl, ?_, rfl, by omega, by omega, hr⟩
  rw [stays_next hx, if_pos he, stays_all h]
set_option maxRecDepth 100000 in
/-- the next element, as it lies -/
theorem cutH.next {p : HoldD → Bool} {l : List HoldD} {g i j : Nat} {w : World} (h : cutH p l g i j w) {x : HoldD} (hx : l[j]? = some x) : w.cell? ⟨g, j * 3, none⟩ = some (.string x.1) ∧ w.cell? ⟨g, j * 3 + 1, none⟩ = some (.int .i64 x.2.1) ∧ w.cell? ⟨g, j * 3 + 2, none⟩ = some (.int .i64 x.2.2) := by
  obtain ⟨L, h1, h2, h3, h4, h5, h6⟩ := h
  have hj := (List.getElem?_eq_some_iff.1 hx).1
  have e : L[j]? = some x := by
    have e1 : L[j]? = (L.drop j)[0]? := by rw [List.getElem?_drop, Nat.add_zero]
    rw [e1, h3, List.getElem?_drop, Nat.add_zero, hx]
  have ha := h6.at_ j hj
  have e2 : L.getD j noH = x := by rw [List.getD_eq_getElem?_getD, e]; rfl
  rw [e2, Nat.zero_add] at ha
  exact ⟨ha 0 _ rfl, ha 1 _ rfl, ha 2 _ rfl⟩
set_option maxRecDepth 100000 in
/-- the place that is written, as it lies -/
theorem cutH.place {p : HoldD → Bool} {l : List HoldD} {g i j : Nat} {w : World} (h : cutH p l g i j w) : ∀ t, t < 3 → (∃ u, w.cell? ⟨g, i * 3 + t, none⟩ = some u) ∧ w.frozen? ⟨g, i * 3 + t, none⟩ = false := by
  obtain ⟨L, h1, h2, h3, h4, h5, h6⟩ := h
  intro t ht
  have := h6.cells (show i < l.length by omega) t ht
  rwa [Nat.zero_add] at this
set_option maxRecDepth 100000 in
theorem cutH.skip {p : HoldD → Bool} {l : List HoldD} {g i j : Nat} {w : World} (h : cutH p l g i j w) {x : HoldD} (hx : l[j]? = some x) (hp : p x = true) : cutH p l g i (j + 1) w := by
  obtain ⟨L, h1, h2, h3, h4, h5, h6⟩ := h
  have hj := (List.getElem?_eq_some_iff.1 hx).1
  refine ⟨L, h1, ?_, ?_, by omega, by omega, h6⟩
  · rw [stays_next hx, if_pos hp]; exact h2
  · rw [← List.drop_drop, h3, List.drop_drop]
set_option maxRecDepth 100000 in
theorem cutH.stay {p : HoldD → Bool} {l : List HoldD} {g i j : Nat} {w : World} (h : cutH p l g i j w) {x : HoldD} (hx : l[j]? = some x) (hp : p x = false) : cutH p l g (i + 1) (j + 1) (setsAt w g (i * 3) (hCells x)) := by
  obtain ⟨L, h1, h2, h3, h4, h5, h6⟩ := h
  have hj := (List.getElem?_eq_some_iff.1 hx).1
  have hi : i < L.length := by omega
  refine ⟨L.set i x, by simpa using h1, ?_, ?_, by omega, by omega, ?_⟩
  · rw [stays_next hx, if_neg (by rw [hp]; exact Bool.false_ne_true), ← h2, List.take_succ_eq_append_getElem (by simpa using hi), List.getElem_set_self]
    congr 1
    rw [List.take_set_of_le (Nat.le_refl _)]
  · rw [List.drop_set_of_lt (by omega), ← List.drop_drop, h3, List.drop_drop]
  · have e : hCells ((L.set i x).getD i noH) = hCells x := by rw [List.getD_eq_getElem?_getD, List.getElem?_set_self hi]; rfl
    have := h6.put (E' := fun k => hCells ((L.set i x).getD k noH)) (show i < l.length by omega) (fun _ _ => rfl) rfl (fun j _ hne => by
      show hCells _ = hCells _
      rw [List.getD_eq_getElem?_getD, List.getD_eq_getElem?_getD, List.getElem?_set_ne (fun e => hne e.symm)])
    rw [Nat.zero_add] at this
    simp only [e] at this
    exact this
set_option maxRecDepth 100000 in
theorem cutH.tail {p : HoldD → Bool} {l : List HoldD} {g i j : Nat} {w : World} (h : cutH p l g i j w) : roomL w g (i * 3) ((l.length - i) * 3) := by
  obtain ⟨L, h1, h2, h3, h4, h5, h6⟩ := h
  exact h6.room.sub (by omega) (by omega)
set_option maxRecDepth 100000 in
theorem cutH.done {p : HoldD → Bool} {l : List HoldD} {g i : Nat} {w : World} (h : cutH p l g i l.length w) (us : List Value) : i = (staysP p l).length ∧ filled (setsAt w g (i * 3) us) g 0 3 i i fun k => hCells ((staysP p l).getD k noH) := by
  obtain ⟨L, h1, h2, h3, h4, h5, h6⟩ := h
  rw [List.take_length] at h2
  have e : i = (staysP p l).length := by rw [← h2, List.length_take]; omega
  have hf := h6.ahead (i := i) (by omega) (fun _ _ => rfl) us
  refine ⟨e, hf.room, fun k hk => ?_⟩
  have hk2 : (staysP p l).getD k noH = L.getD k noH := by rw [← h2, List.getD_eq_getElem?_getD, List.getD_eq_getElem?_getD, List.getElem?_take, if_pos hk]
  show atL _ _ _ (hCells _)
  rw [hk2]
  exact hf.at_ k hk
set_option maxRecDepth 100000 in
theorem infoHold2 : (Tryz.prog.info? 33).map (fun i => (i.zero.map (·.cells), i.size)) = some (some #[.string ⟨#[]⟩, .int .i64 0, .int .i64 0], 3) := by kernel_rfl
set_option maxRecDepth 100000 in
set_option maxHeartbeats 1600000 in
theorem deleteHolds_any (g0 : Nat) (lb : Array Value) (B : Nat) (t : TypeId) (cs : List Value) (p : HoldD → Bool) (A : Option Addr) (c : Nat) (l : List HoldD) (base : Nat) (w : World) (hp : saysH g0 lb B t cs p) (eg : ∀ args w, (callFunc g0 args).run Tryz.prog w = .ok (.enter g0 args) w) (hbk : bk w B t cs) (hB : B < base) (hn : l.length ≤ 1048576) (ho : owE 33 3 hCells base w (.slice A l.length c) l) (hbase : base ≤ w.heap.size) :
    Calls Tryz.prog 137 #[.slice A l.length c, .func (.func g0) #[] lb] w fun e w' => ∃ u, e = .returned u ∧ HoldsR.mine base w'.heap.size w' [u] (staysP p l) ∧ Below base w w' := by
  have HIX := Lib.hid (indexHolds_any g0 lb B t cs p w.heap.size _ l w hp eg hbk hn (owE_holds ho).rd (Nat.le_refl _))
  have HP := Lib.hid hp
  have HOW := Lib.hid ho
  have hBw := hbk.lt
  have HBK := Lib.hid hbk
  have hfi := ho.filled (fun _ => rfl) noH
  clear hp hbk ho
  rcases findP_cases p l with ⟨hv, hall⟩ | ⟨i0, x0, hx0, hv, hpx, hall⟩
  · have HST : Hid (staysP p l = l) := Lib.hid (stays_all hall)
    rw [hv] at HIX
    clear hfi hall hv
    go_enter Tryz.func137, Tryz.ntmps137
    go_wp2_with fail
    refine HIX.out.mono ?_
    rintro e w1 ⟨rfl, hb1⟩
    have HB1 : Hid (Below w.heap.size w w1) := Lib.hid hb1
    have HO1 := Lib.hid (HOW.out.below hb1 (Nat.le_refl _))
    clear hb1
    go_wp2
    go_ret
    exact ⟨_, rfl, by rw [HST.out]; exact owE_holds HO1.out, HB1.out.mono hbase⟩
  obtain ⟨g, rfl, hc, hgb, hgw, hfl⟩ : ∃ g, A = some ⟨g, 0, none⟩ ∧ l.length ≤ c ∧ base ≤ g ∧ g < w.heap.size ∧ filled w g 0 3 l.length l.length fun j => hCells (l.getD j noH) := by
    rcases hfi with ⟨rfl, -⟩ | ⟨b, c', e, h1, h2, h3, h4⟩
    · simp at hx0
    · simp only [Value.slice.injEq, true_and] at e
      obtain ⟨rfl, rfl⟩ := e
      exact ⟨b, rfl, h1, h2, h3, h4⟩
  have hi0 : i0 < l.length := (List.getElem?_eq_some_iff.1 hx0).1
  have HC0 := Lib.hid (cutH.start hx0 hpx hall hfl)
  rw [hv] at HIX
  clear hfi hfl hx0 hall hv HOW hpx
  have gm : ((i0 : Int) == -1) = false := beq_eq_false_iff_ne.2 (by omega)
  go_enter Tryz.func137, Tryz.ntmps137
  go_wp2_with fail
  refine HIX.out.mono ?_
  rintro e w1 ⟨rfl, hb1⟩
  have HB1 : Hid (Below base w w1) := Lib.hid (hb1.mono hbase)
  have HC1 := Lib.hid (HC0.out.keep (hb1.block g hgw))
  have HK1 := Lib.hid (HBK.out.below hb1 hBw)
  have z1 := hb1.size
  clear hb1 HC0
  go_wp2
  go_loopw [5, 6, 7] (fun iv jv _ wr => ∃ i j : Nat, i < j ∧ j ≤ l.length ∧ iv = .int .i64 i ∧ jv = .int .i64 j ∧ Hid (cutH p l g i j wr) ∧ Hid (bk wr B t cs) ∧ Hid (Below base w wr) ∧ w.heap.size ≤ wr.heap.size) (fun _ jv _ _ => l.length - (intOf jv).toNat)
  case atStart => exact ⟨i0, i0 + 1, by omega, by omega, rfl, by go_num, HC1, HK1, HB1, z1⟩
  case round =>
    obtain ⟨i, j, hij, hjl, rfl, rfl, HC, HK, HB, hz⟩ := hrel
    by_cases hin : j < l.length
    · obtain ⟨x, hx⟩ : ∃ x, l[j]? = some x := ⟨_, List.getElem?_eq_getElem hin⟩
      obtain ⟨c0, c1, c2⟩ := HC.out.next hx
      have HSK := Lib.hid (fun W (h : cutH p l g i j W) hpx => h.skip hx hpx)
      have HSY := Lib.hid (fun W (h : cutH p l g i j W) hpx => h.stay hx hpx)
      have HP2 := Lib.hid (fun W (h : bk W B t cs) => HP.out W x h)
      clear hx
      have g1 : (j : Int) < (l.length : Int) := by omega
      have g2 : 0 ≤ (j : Int) := by omega
      have g3 : (i : Int) < (l.length : Int) := by omega
      have g4 : 0 ≤ (i : Int) := by omega
      generalize p x = px at HSK HSY HP2
      go_upto_region 8 with fail
      obtain ⟨W, hW⟩ : ∃ W, W = wr.alloc (.cells #[.string x.1, .int .i64 x.2.1, .int .i64 x.2.2] 33) := ⟨_, rfl⟩
      have b0 : bk W wr.heap.size 33 [.string x.1, .int .i64 x.2.1, .int .i64 x.2.2] := by rw [hW]; exact bk.new wr _ _
      have HB0 : Hid (Below base w W) := Lib.hid (by rw [hW]; exact HB.out.alloc (by omega) _)
      have HC2 : Hid (cutH p l g i j W) := Lib.hid (HC.out.keep (by rw [hW]; exact Below.heap_alloc _ _ _ (by omega)))
      have HK2 : Hid (bk W B t cs) := Lib.hid (by rw [hW]; exact HK.out.alloc _)
      have z0 := b0.lt
      rw [← hW]
      clear hW c0 c1 c2
      obtain ⟨p0, p1, p2⟩ := b0.cells3
      go_wp2_with fail
      refine (HP2.out W HK2.out).mono ?_
      rintro e w2 ⟨rfl, hb2⟩
      have z2 := hb2.size
      have HB2 : Hid (Below base w w2) := Lib.hid (HB0.out.trans (hb2.mono (by omega)))
      have HC3 : Hid (cutH p l g i j w2) := Lib.hid (HC2.out.keep (hb2.block _ (by omega)))
      have HK3 := Lib.hid (HK2.out.below hb2 (by omega))
      replace b0 := b0.below hb2 z0
      clear hb2 p0 p1 p2 HC HK HB HB0 HC2 HK2
      obtain ⟨p0, p1, p2⟩ := b0.cells3
      cases px
      · obtain ⟨⟨u0, d0⟩, f0⟩ := HC3.out.place 0 (by omega)
        obtain ⟨⟨u1, d1⟩, f1⟩ := HC3.out.place 1 (by omega)
        obtain ⟨⟨u2, d2⟩, f2⟩ := HC3.out.place 2 (by omega)
        simp only [Nat.add_zero] at d0 f0
        have HC4 := Lib.hid (HSY.out w2 HC3.out rfl)
        clear b0
        go_wp2
        go_roundw
        case rel => exact ⟨i + 1, j + 1, by omega, by omega, by go_num, by go_num, HC4, Lib.hid (((HK3.out.far (p := ⟨g, _, none⟩) (by simp; omega) _).far (p := ⟨g, _, none⟩) (by simp; omega) _).far (p := ⟨g, _, none⟩) (by simp; omega) _), Lib.hid (((HB2.out.setCell (p := ⟨g, _, none⟩) hgb _).setCell (p := ⟨g, _, none⟩) hgb _).setCell (p := ⟨g, _, none⟩) hgb _), by simp [World.setCell]; omega⟩
        case measure => simp [intOf] <;> omega
      · have HC4 := Lib.hid (HSK.out w2 HC3.out rfl)
        go_wp2
        go_roundw
        case rel => exact ⟨i, j + 1, by omega, by omega, rfl, by go_num, HC4, HK3, HB2, by omega⟩
        case measure => simp [intOf] <;> omega
    · obtain rfl : j = l.length := by omega
      have g3 : (i : Int) < (l.length : Int) := by omega
      have g4 : 0 ≤ (i : Int) := by omega
      go_wp2_with (refine wpList_clear_tail hCells 3 (fun _ => rfl) hCells_one rfl _ _ rfl 33 Tryz.underlying23 #[.string ⟨#[]⟩, .int .i64 0, .int .i64 0] infoHold2 noH rfl wr g (i * 3) (l.length - i) (c - i) HC.out.tail (by omega) rfl ?_)
      · obtain ⟨us, hus⟩ : ∃ us, us = (List.replicate (l.length - i) noH).flatMap hCells := ⟨_, rfl⟩
        rw [← hus]
        obtain ⟨he, hf⟩ := HC.out.done us
        have ht := setsAt_turned us wr g (i * 3) (Turned.refl g (g + 1) wr) (Nat.le_refl _) (by omega)
        have hsz := ht.size
        have HF := Lib.hid hf
        have HE := Lib.hid he
        have HBW : Hid (Below base w (setsAt wr g (i * 3) us)) := Lib.hid (HB.out.trans (setsAt_below us wr g (i * 3) (Below.refl _ _) hgb))
        generalize setsAt wr g (i * 3) us = wf at HF HBW hsz
        clear hf he ht hus HC HB HK
        go_wp2
        go_ret
        exact ⟨_, rfl, holds_mine HE.out (by omega) hgb (by omega) HF.out, HBW.out⟩
set_option maxRecDepth 100000 in
theorem stays_drop (l : List HoldD) (id : ByteArray) : staysP (fun x => decide (x.1 = id)) l = dropL l id := by
  unfold staysP dropL
  congr 1
  funext x
  simp
set_option maxRecDepth 100000 in
theorem stays_live (l : List HoldD) (now : Int) : staysP (fun x => !live now x) l = liveL l now := by
  unfold staysP liveL
  congr 1
  funext x
  simp
set_option maxRecDepth 100000 in
theorem says_drop (id : ByteArray) (B : Nat) : saysH 197 #[.pointer (some ⟨B, 0, none⟩)] B 9 [.string id] (fun x => decide (x.1 = id)) := by
  intro W x hb
  show Calls Tryz.prog 197 #[.agg #[.string x.1, .int .i64 x.2.1, .int .i64 x.2.2], .pointer (some ⟨B, 0, none⟩)] W _
  have HB0 : Hid (Below W.heap.size W (W.alloc (.cells #[.string x.1, .int .i64 x.2.1, .int .i64 x.2.2] 33))) := Lib.hid ((Below.refl _ _).alloc (Nat.le_refl _) _)
  have c0 : (W.alloc (.cells #[.string x.1, .int .i64 x.2.1, .int .i64 x.2.2] 33)).cell? ⟨B, 0, none⟩ = some (.string id) := (hb.alloc _).cell 0
  clear hb
  have HE : Hid ((x.1.toList == id.toList) = decide (x.1 = id)) := Lib.hid (by
    by_cases h : x.1 = id
    · rw [h]; simp
    · rw [decide_eq_false h]; simpa using fun e => h (str_eq_list.1 e))
  go_enter Tryz.func197, Tryz.ntmps197
  go_wp2
  go_ret
  exact ⟨ret_bool HE.out, HB0.out⟩
set_option maxRecDepth 100000 in
theorem says_live (now : Int) (B : Nat) : saysH 139 #[.pointer (some ⟨B, 0, none⟩)] B 3 [.int .i64 now] (fun x => !live now x) := by
  intro W x hb
  show Calls Tryz.prog 139 #[.agg #[.string x.1, .int .i64 x.2.1, .int .i64 x.2.2], .pointer (some ⟨B, 0, none⟩)] W _
  have HB0 : Hid (Below W.heap.size W (W.alloc (.cells #[.string x.1, .int .i64 x.2.1, .int .i64 x.2.2] 33))) := Lib.hid ((Below.refl _ _).alloc (Nat.le_refl _) _)
  have c0 : (W.alloc (.cells #[.string x.1, .int .i64 x.2.1, .int .i64 x.2.2] 33)).cell? ⟨B, 0, none⟩ = some (.int .i64 now) := (hb.alloc _).cell 0
  clear hb
  have HL := Lib.hid (fun V => implLive_any x now V)
  go_enter Tryz.func139, Tryz.ntmps139
  go_wp2_with fail
  refine (HL.out _).mono ?_
  rintro e w1 ⟨rfl, hb1⟩
  have HB1 : Hid (Below W.heap.size W w1) := Lib.hid (HB0.out.trans (hb1.mono (by simp)))
  clear hb1
  go_wp2
  go_ret
  exact ⟨rfl, HB1.out⟩
set_option maxRecDepth 100000 in
theorem implHoldDrop_any (hi : Nat) (v : Value) (l : List HoldD) (id : ByteArray) (w : World) (hn : l.length ≤ 1048576) (h : HoldsR.rd hi w [v] l) (hh : hi ≤ w.heap.size) :
    Calls Tryz.prog 127 #[v, .string id] w (holdsOne (dropL l id) w) := by
  obtain ⟨W, hW⟩ : ∃ W, W = w.alloc (.cells #[.string id] 9) := ⟨_, rfl⟩
  have b0 : bk W w.heap.size 9 [.string id] := by rw [hW]; exact bk.new w _ _
  have HB0 : Hid (Below w.heap.size w W) := Lib.hid (by rw [hW]; exact (Below.refl _ _).alloc (Nat.le_refl _) _)
  have z0 := b0.lt
  have HCL := Lib.hid (cloneHolds_any hi v l W hn (Rep.below (R := HoldsR) h HB0.out hh) (Nat.le_trans hh HB0.out.size))
  have eg := Go.Proofs.enters_of Tryz.func197 (by kernel_rfl) rfl
  have HB := Lib.hid b0
  clear h b0
  go_enter Tryz.func127, Tryz.ntmps127
  go_upto_region 1 with fail
  rw [← hW]
  clear hW
  go_wp2_with fail
  refine HCL.out.mono ?_
  rintro e w1 ⟨A, c, rfl, ho, hb1⟩
  have z1 := hb1.size
  have HDL := Lib.hid (deleteHolds_any _ _ w.heap.size 9 [.string id] _ A c l W.heap.size w1 (says_drop id w.heap.size) eg (HB.out.below hb1 z0) z0 hn ho z1)
  have HB1 : Hid (Below w.heap.size w w1) := Lib.hid (HB0.out.trans (hb1.mono (by omega)))
  clear ho hb1 HCL HB HB0
  go_wp2_with fail
  refine HDL.out.mono ?_
  rintro e w2 ⟨u, rfl, hm, hb2⟩
  have HM := Lib.hid hm
  have HB2 : Hid (Below w.heap.size w w2) := Lib.hid (HB1.out.trans (hb2.mono (by omega)))
  clear hm hb2 HDL HB1
  go_wp2
  go_ret
  exact ⟨_, rfl, by rw [← stays_drop]; exact HM.out.mono (by omega) (Nat.le_refl _), HB2.out⟩
set_option maxRecDepth 100000 in
theorem implLiveOnes_any (hi : Nat) (v : Value) (l : List HoldD) (now : Int) (w : World) (hn : l.length ≤ 1048576) (h : HoldsR.rd hi w [v] l) (hh : hi ≤ w.heap.size) :
    Calls Tryz.prog 67 #[v, .int .i64 now] w (holdsOne (liveL l now) w) := by
  obtain ⟨W, hW⟩ : ∃ W, W = w.alloc (.cells #[.int .i64 now] 3) := ⟨_, rfl⟩
  have b0 : bk W w.heap.size 3 [.int .i64 now] := by rw [hW]; exact bk.new w _ _
  have HB0 : Hid (Below w.heap.size w W) := Lib.hid (by rw [hW]; exact (Below.refl _ _).alloc (Nat.le_refl _) _)
  have z0 := b0.lt
  have HCL := Lib.hid (cloneHolds_any hi v l W hn (Rep.below (R := HoldsR) h HB0.out hh) (Nat.le_trans hh HB0.out.size))
  have eg := Go.Proofs.enters_of Tryz.func139 (by kernel_rfl) rfl
  have HB := Lib.hid b0
  clear h b0
  go_enter Tryz.func67, Tryz.ntmps67
  go_upto_region 1 with fail
  rw [← hW]
  clear hW
  go_wp2_with fail
  refine HCL.out.mono ?_
  rintro e w1 ⟨A, c, rfl, ho, hb1⟩
  have z1 := hb1.size
  have HDL := Lib.hid (deleteHolds_any _ _ w.heap.size 3 [.int .i64 now] _ A c l W.heap.size w1 (says_live now w.heap.size) eg (HB.out.below hb1 z0) z0 hn ho z1)
  have HB1 : Hid (Below w.heap.size w w1) := Lib.hid (HB0.out.trans (hb1.mono (by omega)))
  clear ho hb1 HCL HB HB0
  go_wp2_with fail
  refine HDL.out.mono ?_
  rintro e w2 ⟨u, rfl, hm, hb2⟩
  have HM := Lib.hid hm
  have HB2 : Hid (Below w.heap.size w w2) := Lib.hid (HB1.out.trans (hb2.mono (by omega)))
  clear hm hb2 HDL HB1
  go_wp2
  go_ret
  exact ⟨_, rfl, by rw [← stays_live]; exact HM.out.mono (by omega) (Nat.le_refl _), HB2.out⟩
end Go.Proofs.YtnmijppppcgobaaGreatDoor
set_option linter.unusedVariables false
namespace Go.Proofs.YtnmijppppcgobaaGreatDoor
open Go.ChangeShapes Go.WideShapes Go.ChangeAt Go.RowKit

set_option maxRecDepth 100000 in
set_option maxHeartbeats 1600000 in
theorem implStored_any (hi : Nat) (v : Value) (l : List HoldD) (w : World) (hg : Handle w) (hn : l.length ≤ 1048576) (h : HoldsR.rd hi w [v] l) (hh : hi ≤ w.heap.size) :
    Calls Tryz.prog 24 #[v] w fun e w' => e = .returned (.int .i64 (storedL l)) ∧ Below w.heap.size w w' := by
  obtain ⟨A, c, rfl, hc, h⟩ := holds_rd h
  have HR := Lib.hid h
  have HG := Lib.hid hg
  clear h hg
  go_enter Tryz.func24, Tryz.ntmps24
  go_wp2
  go_loopw [3, 8] (fun nv iv wr => ∃ i : Nat, i ≤ l.length ∧ iv = .int .i64 i ∧ nv = .int .i64 (storedL (l.take i)) ∧ Hid (Below w.heap.size w wr) ∧ w.heap.size ≤ wr.heap.size) (fun _ iv _ => l.length - (intOf iv).toNat)
  case atStart => exact ⟨0, Nat.zero_le _, rfl, rfl, Lib.hid (Below.refl _ _), Nat.le_refl _⟩
  case round =>
    obtain ⟨i, hi', rfl, rfl, HB, hz⟩ := hrel
    by_cases hin : i < l.length
    · obtain ⟨x, hx⟩ : ∃ x, l[i]? = some x := ⟨_, List.getElem?_eq_getElem hin⟩
      obtain ⟨b, off, rfl, hbl, c0, c1, c2⟩ := HR.out i x hx
      have HNX := Lib.hid (storedL_next hx)
      clear hx
      have c0 := (HB.out.cell (p := ⟨b, off + i * 3, none⟩) (show b < w.heap.size by omega)).trans c0
      have c1 := (HB.out.cell (p := ⟨b, off + i * 3 + 1, none⟩) (show b < w.heap.size by omega)).trans c1
      have c2 := (HB.out.cell (p := ⟨b, off + i * 3 + 2, none⟩) (show b < w.heap.size by omega)).trans c2
      have g1 : (i : Int) < (l.length : Int) := by omega
      have g2 : 0 ≤ (i : Int) := by omega
      have HSA := Lib.hid (fun W (hW : Below w.heap.size w W) => implSat_any (storedL (l.take i)) x.2.1 W (HG.out.below hW (Nat.le_refl _)))
      have HB2 : Hid (Below w.heap.size w (wr.alloc (.cells #[.string x.1, .int .i64 x.2.1, .int .i64 x.2.2] 33))) := Lib.hid (HB.out.alloc hz _)
      go_wp2_with fail
      refine (HSA.out _ HB2.out).mono ?_
      rintro e w5 ⟨rfl, hb5⟩
      have HB5 : Hid (Below w.heap.size w w5) := Lib.hid (HB2.out.trans (hb5.mono (by simp; omega)))
      have z5 := hb5.size
      have z6 : w.heap.size ≤ w5.heap.size := by simp at z5; omega
      clear hb5 z5
      go_wp2
      go_roundw
      case rel => exact ⟨i + 1, by omega, by go_num, by rw [HNX.out], HB5, z6⟩
      case measure => simp [intOf] <;> omega
    · obtain rfl : i = l.length := by omega
      rw [List.take_length]
      go_wp2
      go_ret
      exact ⟨rfl, HB.out⟩
set_option maxRecDepth 100000 in
theorem implLiveSum_any (hi : Nat) (v : Value) (l : List HoldD) (now : Int) (w : World) (hg : Handle w) (hn : l.length ≤ 1048576) (h : HoldsR.rd hi w [v] l) (hh : hi ≤ w.heap.size) :
    Calls Tryz.prog 23 #[v, .int .i64 now] w fun e w' => e = .returned (.int .i64 (storedL (liveL l now))) ∧ Below w.heap.size w w' := by
  have HL := Lib.hid (implLiveOnes_any hi v l now w hn h hh)
  have hl : (liveL l now).length ≤ 1048576 := Nat.le_trans (List.length_filter_le _ _) hn
  have HG := Lib.hid hg
  clear h hg
  generalize liveL l now = m at HL hl ⊢
  go_enter Tryz.func23, Tryz.ntmps23
  go_wp2_with fail
  refine HL.out.mono ?_
  rintro e w1 ⟨u, rfl, hm, hb⟩
  have HS := Lib.hid (implStored_any w1.heap.size u m w1 (HG.out.below hb (Nat.le_refl _)) hl hm.rd (Nat.le_refl _))
  have HB := Lib.hid hb
  have z := hb.size
  clear hm hb HL HG
  go_wp2_with fail
  refine HS.out.mono ?_
  rintro e w2 ⟨rfl, hb2⟩
  go_wp2
  go_ret
  exact ⟨rfl, HB.out.trans (hb2.mono z)⟩
end Go.Proofs.YtnmijppppcgobaaGreatDoor
set_option linter.unusedVariables false
namespace Go.Proofs.YtnmijppppcgobaaGreatDoor
open Go.ChangeShapes Go.WideShapes Go.ChangeAt Go.RowKit

def mtiOk (s : ByteArray) : Bool := digs s && decide (s.size = 4)
set_option maxRecDepth 100000 in
theorem isMti_any (s : ByteArray) (w : World) (hs : s.size ≤ maxLen) :
    Calls Tryz.prog 245 #[.string s] w fun e w' => e = .returned (.bool (mtiOk s)) ∧ Below w.heap.size w w' := by
  by_cases h4 : s.size = 4
  · have HM : Hid (mtiOk s = digs s) := Lib.hid (by simp [mtiOk, h4])
    rw [HM.out]
    have h4' : ((s.size : Int) == 4) = true := by simp [h4]
    have HD := Lib.hid (fun w' => implDigits_any s w' hs)
    clear h4
    go_enter Tryz.func245, Tryz.ntmps245
    go_wp2_with fail
    refine (HD.out _).mono ?_
    rintro e w1 ⟨rfl, hb⟩
    go_wp2
    go_ret
    exact ⟨rfl, hb⟩
  · have HM : Hid (mtiOk s = false) := Lib.hid (by simp [mtiOk, h4])
    rw [HM.out]
    have h4' : ((s.size : Int) == 4) = false := by simp; omega
    clear h4
    go_enter Tryz.func245, Tryz.ntmps245
    go_wp2
    go_ret
    exact ⟨rfl, Below.refl _ _⟩
end Go.Proofs.YtnmijppppcgobaaGreatDoor
set_option linter.unusedVariables false
namespace Go.Proofs.YtnmijppppcgobaaGreatDoor
open Go.ChangeShapes Go.WideShapes Go.ChangeAt Go.RowKit

def traceOk (s : ByteArray) : Bool := digs s && decide (s.size = 6)
set_option maxRecDepth 100000 in
theorem isTrace_any (s : ByteArray) (w : World) (hs : s.size ≤ maxLen) :
    Calls Tryz.prog 244 #[.string s] w fun e w' => e = .returned (.bool (traceOk s)) ∧ Below w.heap.size w w' := by
  by_cases h4 : s.size = 6
  · have HM : Hid (traceOk s = digs s) := Lib.hid (by simp [traceOk, h4])
    rw [HM.out]
    have h4' : ((s.size : Int) == 6) = true := by simp [h4]
    have HD := Lib.hid (fun w' => implDigits_any s w' hs)
    clear h4
    go_enter Tryz.func244, Tryz.ntmps244
    go_wp2_with fail
    refine (HD.out _).mono ?_
    rintro e w1 ⟨rfl, hb⟩
    go_wp2
    go_ret
    exact ⟨rfl, hb⟩
  · have HM : Hid (traceOk s = false) := Lib.hid (by simp [traceOk, h4])
    rw [HM.out]
    have h4' : ((s.size : Int) == 6) = false := by simp; omega
    clear h4
    go_enter Tryz.func244, Tryz.ntmps244
    go_wp2
    go_ret
    exact ⟨rfl, Below.refl _ _⟩
set_option maxRecDepth 100000 in
theorem slotOk_parts (x : SlotD) : slotOk x = (traceOk x.1 && (mtiOk x.2.1 && inB (x.2.2.length : Int) 1 200)) := by
  unfold slotOk traceOk mtiOk
  simp only [Bool.and_assoc]
set_option maxRecDepth 100000 in
set_option maxHeartbeats 1600000 in
theorem implSlotOk_any (hi : Nat) (v : Value) (x : SlotD) (w : World) (hs1 : x.1.size ≤ maxLen) (hs2 : x.2.1.size ≤ maxLen) (h : rd .u8 hi w v x.2.2) :
    Calls Tryz.prog 221 #[.agg #[.string x.1, .string x.2.1, v]] w fun e w' => e = .returned (.bool (slotOk x)) ∧ Below w.heap.size w w' := by
  obtain ⟨A, c, rfl, -⟩ := h.form
  clear h
  have HT := Lib.hid (fun w => isTrace_any x.1 w hs1)
  have HM := Lib.hid (fun w => isMti_any x.2.1 w hs2)
  have HV := Lib.hid (slotOk_parts x)
  generalize traceOk x.1 = b1 at HT HV
  generalize mtiOk x.2.1 = b2 at HM HV
  rw [HV.out]
  clear hs1 hs2
  go_enter Tryz.func221, Tryz.ntmps221
  go_upto_region 1 with fail
  obtain ⟨W, hW⟩ : ∃ W, W = w.alloc (.cells #[.string x.1, .string x.2.1, .slice A x.2.2.length c] 176) := ⟨_, rfl⟩
  have b0 : bk W w.heap.size 176 [.string x.1, .string x.2.1, .slice A x.2.2.length c] := by rw [hW]; exact bk.new w _ _
  have HB0 : Hid (Below w.heap.size w W) := Lib.hid (by rw [hW]; exact (Below.refl _ _).alloc (Nat.le_refl _) _)
  have z0 := b0.lt
  rw [← hW]
  clear hW
  have B0 := Lib.hid b0
  obtain ⟨p0, p1, p2⟩ := b0.cells3
  clear b0
  go_wp2_with fail
  refine (HT.out W).mono ?_
  rintro e w1 ⟨rfl, hb1⟩
  have z1 := hb1.size
  have HB1 : Hid (Below w.heap.size w w1) := Lib.hid (HB0.out.trans (hb1.mono (by omega)))
  have B1 := Lib.hid (B0.out.below hb1 z0)
  clear hb1 p0 p1 p2 B0 HB0
  obtain ⟨p0, p1, p2⟩ := B1.out.cells3
  cases b1
  · go_wp2
    go_ret
    exact ⟨rfl, HB1.out⟩
  go_wp2_with fail
  refine (HM.out w1).mono ?_
  rintro e w2 ⟨rfl, hb2⟩
  have z2 := hb2.size
  have HB2 : Hid (Below w.heap.size w w2) := Lib.hid (HB1.out.trans (hb2.mono (by omega)))
  have B2 := Lib.hid (B1.out.below hb2 (by omega))
  clear hb2 p0 p1 p2 B1 HB1
  obtain ⟨p0, p1, p2⟩ := B2.out.cells3
  cases b2
  · go_wp2
    go_ret
    exact ⟨rfl, HB2.out⟩
  by_cases e1 : (1 : Int) ≤ (x.2.2.length : Int)
  · by_cases e2 : (x.2.2.length : Int) ≤ 200
    all_goals
      go_wp2
      go_ret
      exact ⟨by simp [inB]; omega, HB2.out⟩
  · go_wp2
    go_ret
    exact ⟨by simp [inB]; omega, HB2.out⟩
end Go.Proofs.YtnmijppppcgobaaGreatDoor
set_option linter.unusedVariables false
namespace Go.Proofs.YtnmijppppcgobaaGreatDoor
open Go.ChangeShapes Go.WideShapes Go.ChangeAt Go.RowKit
open Go.Maps (Keyed IsMap)

set_option maxRecDepth 100000 in
theorem str_beq (a b : ByteArray) : (a.toList == b.toList) = decide (a = b) := by
  by_cases h : a = b
  · subst h; simp
  · have h' : ¬ a.toList = b.toList := fun e => h (str_eq_list.1 e)
    rw [decide_eq_false h]; simpa using h'
set_option maxRecDepth 100000 in
theorem keyFields : (Tryz.prog.fieldsOf 215).toList.map (fun f => (f.type, f.offset, decide (f.name ≠ "_"))) = [(9, 0, true), (9, 1, true)] := by kernel_rfl
set_option maxRecDepth 100000 in
theorem keyUnder : Tryz.prog.underlying 215 = some (.struct (Tryz.prog.fieldsOf 215)) := by kernel_rfl
set_option maxRecDepth 100000 in
theorem keyEql (a b c d : ByteArray) (w : World) : (binOp .eql 215 (.agg #[.string a, .string b]) (.agg #[.string c, .string d])).run Tryz.prog w = .ok (.bool (decide (a = c) && decide (b = d))) w := by
  have hs : Tryz.prog.stoodInHeld 215 = false := by kernel_rfl
  rw [run_eql_struct, run_equalIn_struct w 9999 _ _ _ keyUnder hs, ← str_beq, ← str_beq]
  have hf := keyFields
  generalize (Tryz.prog.fieldsOf 215).toList = fs at hf
  have hl : fs.length = 2 := by simpa using congrArg List.length hf
  match fs, hl, hf with
  | [f, g], _, hf =>
    simp only [List.map_cons, List.map_nil, List.cons.injEq, Prod.mk.injEq, and_true, decide_eq_true_eq] at hf
    obtain ⟨⟨f1, f2, f3⟩, g1, g2, g3⟩ := hf
    have p1 : ∀ u v : Value, (Go.part 9 #[u, v] 0).run Tryz.prog w = .ok u w := fun u v => by kernel_rfl
    have p2 : ∀ u v : Value, (Go.part 9 #[u, v] 1).run Tryz.prog w = .ok v w := fun u v => by kernel_rfl
    have s1 := fun a b => run_equalIn_string (P := Tryz.prog) w 9998 9 a b Tryz.underlying9
    simp only [Op.eqFields, f1, f2, f3, g1, g2, g3, if_true, Sem.run_bind, Sem.run_ite, Sem.run_pure, p1, p2, s1, Result.andThen_ok, ne_eq, not_false_eq_true]
    cases (a.toList == c.toList) <;> cases (b.toList == d.toList) <;> simp
set_option maxRecDepth 100000 in
theorem keyLaidOut : laidOutB Tryz.prog = true := by kernel_rfl
set_option maxRecDepth 100000 in
theorem keyRow : (215 : TypeId) < Tryz.prog.types.size := of_decide_eq_true (by kernel_rfl)
set_option maxRecDepth 100000 in
theorem keyWide : (match Tryz.prog.underlying 215 with | some (.array _ _) | some (.struct _) => true | _ => false) = true := by rw [keyUnder]
set_option maxRecDepth 100000 in
theorem lawKey : Keyed Tryz.prog 215 := Keyed.of_law (deep_law_laid keyLaidOut (m := 2) (by omega) keyRow (by kernel_rfl) keyWide)
/-- what a key reads as -/
def keyLit (t m : ByteArray) : Lit := .string (keyBytes [.string t.data.toList, .string m.data.toList])
set_option maxRecDepth 100000 in
theorem keyFormed (u v : Value) : (Value.agg #[u, v]).formed Tryz.prog 215 = true := by
  have hc : Tryz.prog.cellsOf 215 = 2 := by kernel_rfl
  simp [Value.formed, hc]
set_option maxRecDepth 100000 in
theorem keyDeep : Tryz.prog.keyType 215 = true := by kernel_rfl
set_option maxRecDepth 100000 in
theorem keyOf_slot (t m : ByteArray) (ht : t.size ≤ maxLen) (hm : m.size ≤ maxLen) : keyOf Tryz.prog 215 (.agg #[.string t, .string m]) = some (keyLit t m) := by
  obtain ⟨N, hN⟩ : ∃ N, Tryz.prog.types.size = N + 1 := ⟨_, (Nat.succ_pred_eq_of_pos (Nat.lt_of_le_of_lt (Nat.zero_le _) keyRow)).symm⟩
  have hc : Tryz.prog.cellsOf 215 = 2 := by kernel_rfl
  have hcs : Tryz.prog.cellsOf 9 = 1 := by kernel_rfl
  have hk : Tryz.prog.keyLits (Tryz.prog.types.size + 1) 215 [.string t, .string m] = some [.string t.data.toList, .string m.data.toList] := by
    rw [hN]
    unfold Program.keyLits
    rw [keyUnder]
    have hf := keyFields
    have hall : (Tryz.prog.fieldsOf 215).all (·.name != "_") = true := by kernel_rfl
    simp only [List.length_cons, List.length_nil, hc, hall, and_self, if_true]
    generalize (Tryz.prog.fieldsOf 215).toList = fs at hf ⊢
    have hl : fs.length = 2 := by simpa using congrArg List.length hf
    match fs, hl, hf with
    | [f, g], _, hf =>
      simp only [List.map_cons, List.map_nil, List.cons.injEq, Prod.mk.injEq, and_true, decide_eq_true_eq] at hf
      obtain ⟨⟨f1, f2, -⟩, g1, g2, -⟩ := hf
      have h1 : ∀ s : ByteArray, s.size ≤ maxLen → Tryz.prog.keyLits (N + 1) 9 [.string s] = some [.string s.data.toList] := fun s hs => by
        unfold Program.keyLits
        rw [Tryz.underlying9]
        simp [hs]
      simp [f1, f2, g1, g2, hcs, h1 t ht, h1 m hm]
  unfold keyOf
  rw [keyUnder]
  have hcells : (Value.agg #[.string t, .string m]).cells.toList = [.string t, .string m] := rfl
  simp only [keyDeep, keyFormed, Bool.and_self, if_true, hcells, hk, Option.map_some]
  rfl
set_option maxRecDepth 100000 in
theorem keyLit_inj {t m t' m' : ByteArray} (ht : t.size ≤ maxLen) (hm : m.size ≤ maxLen) (ht' : t'.size ≤ maxLen) (hm' : m'.size ≤ maxLen) (h : keyLit t m = keyLit t' m') : t = t' ∧ m = m' := by
  have h1 := keyOf_slot t m ht hm
  have h2 := keyOf_slot t' m' ht' hm'
  rw [h] at h1
  have := lawKey.inj h1 h2
  simp only [Value.agg.injEq, Array.mk.injEq, List.cons.injEq, Value.string.injEq, and_true] at this
  exact this
set_option maxRecDepth 100000 in
theorem keyLit_key (t m : ByteArray) : WideAt.IsKeyLit (keyLit t m) := by simp [keyLit, WideAt.IsKeyLit]
/-- the map holds just the keys of the slots of the list -/
structure keysAre (D : DataW Unit) (L : List SlotD) : Prop where
  isMap : IsMap D
  at_ : ∀ t m : ByteArray, t.size ≤ maxLen → m.size ≤ maxLen → D.atKey (keyLit t m) (.lit (.bool false)) = .lit (.bool (L.any (isSlot t m)))
set_option maxRecDepth 100000 in
theorem keysAre.start : keysAre (.map [] : DataW Unit) [] := ⟨Maps.isMap_empty, fun t m _ _ => rfl⟩
set_option maxRecDepth 100000 in
theorem keysAre.snoc {D : DataW Unit} {L : List SlotD} {x : SlotD} (h : keysAre D L) (h1 : x.1.size ≤ maxLen) (h2 : x.2.1.size ≤ maxLen) : keysAre (D.put (keyLit x.1 x.2.1) (.lit (.bool true))) (L ++ [x]) := by
  refine ⟨h.isMap.put _ _, fun t m ht hm => ?_⟩
  rw [List.any_append]
  by_cases e : t = x.1 ∧ m = x.2.1
  · obtain ⟨rfl, rfl⟩ := e
    rw [Maps.atKey_put_same h.isMap (keyLit_key _ _)]
    simp [isSlot]
  · have hne : keyLit t m ≠ keyLit x.1 x.2.1 := fun e' => e (keyLit_inj ht hm h1 h2 e')
    rw [Maps.atKey_put_other hne, h.at_ t m ht hm]
    have : isSlot t m x = false := by
      unfold isSlot
      rw [Bool.and_eq_false_iff]
      by_cases e1 : x.1 = t
      · exact .inr (decide_eq_false fun e2 => e ⟨e1.symm, e2.symm⟩)
      · exact .inl (decide_eq_false e1)
    simp [this]
set_option maxRecDepth 100000 in
theorem plainElem_bool_inv {P : Program} {e : TypeId} (he : P.underlying e = some .bool) {v : Value} {z : DataW Unit × List MemPlace} (h : plainElem P e v = some z) : ∃ b, v = .bool b ∧ z = (.lit (.bool b), []) := by
  unfold plainElem at h
  rw [he] at h
  split at h <;> simp_all
set_option maxRecDepth 100000 in
theorem look_bool_run {P : Program} {w : World} {t k e : TypeId} (K : Keyed P k) (ht : P.underlying t = some (.map k e)) (he : P.underlying e = some .bool) (hz : (zeroValue e).run P w = .ok (.bool false) w) {b n : Nat} {D : DataW Unit}
    (hown : w.ownsMap P k (plainElem P e) b n D) {key : Value} {kl : Lit} (hkey : keyOf P k key = some kl) {s : Bool} (hat : D.atKey kl (.lit (.bool false)) = .lit (.bool s)) :
    (Instr.lookup t (.map (some b)) key false).run P w = .ok (.bool s) w := by
  obtain ⟨v, ps, hrun, hv⟩ := hown.lookup K ht hz (plainElem_bool he false) hkey
  obtain ⟨c, rfl, hc⟩ := plainElem_bool_inv he hv
  rw [hat] at hc
  simp only [Prod.mk.injEq, DataW.lit.injEq, Lit.bool.injEq] at hc
  obtain rfl : s = c := hc.1
  exact hrun
end Go.Proofs.YtnmijppppcgobaaGreatDoor
set_option linter.unusedVariables false
namespace Go.Proofs.YtnmijppppcgobaaGreatDoor
open Go.ChangeShapes Go.WideShapes Go.ChangeAt Go.RowKit
open Go.Maps (Keyed IsMap)

set_option maxRecDepth 100000 in
theorem implKeyOf_any (A : Option Addr) (n c : Nat) (s t : ByteArray) (w : World) :
    Calls Tryz.prog 220 #[.agg #[.string s, .string t, .slice A n c]] w fun e w' => e = .returned (.agg #[.string s, .string t]) ∧ Below w.heap.size w w' := by
  go_enter Tryz.func220, Tryz.ntmps220
  go_upto_region 1 with fail
  obtain ⟨W, hW⟩ : ∃ W, W = (w.alloc (.cells #[.string s, .string t, .slice A n c] 176)).alloc (.cells #[.string ⟨#[]⟩, .string ⟨#[]⟩] 215) := ⟨_, rfl⟩
  have b0 : bk W w.heap.size 176 [.string s, .string t, .slice A n c] := by rw [hW]; exact (bk.new w _ _).alloc _
  have b1 : bk W (w.heap.size + 1) 215 [.string ⟨#[]⟩, .string ⟨#[]⟩] := by rw [hW]; have := bk.new (w.alloc (.cells #[.string s, .string t, .slice A n c] 176)) 215 [.string ⟨#[]⟩, .string ⟨#[]⟩]; simpa using this
  have HB0 : Hid (Below w.heap.size w W) := Lib.hid (by rw [hW]; exact ((Below.refl _ _).alloc (Nat.le_refl _) _).alloc (by simp) _)
  rw [← hW]
  clear hW
  obtain ⟨p0, p1, p2⟩ := b0.cells3
  have q0 := b1.cell 0
  have q1 := b1.cell 1
  have f0 := b1.frozen 0
  have f1 := b1.frozen 1
  simp only [List.getElem?_cons_zero, List.getElem?_cons_succ] at q0 q1
  clear b0 b1
  go_wp2
  refine bodyPost_ret (v := .agg #[.string s, .string t]) (by simp [results, Tryz.results220, go_sem, q0, q1]) rfl ?_
  exact ⟨rfl, (HB0.out.setCell (p := ⟨w.heap.size + 1, 0, none⟩) (Nat.le_succ _) _).setCell (p := ⟨w.heap.size + 1, 1, none⟩) (Nat.le_succ _) _⟩
set_option maxRecDepth 100000 in
theorem zeroBool (w : World) : (zeroValue 4).run Tryz.prog w = .ok (.bool false) w := by kernel_rfl
/-- block b holds a map from keys to bools -/
abbrev keysAt (w : World) (b n : Nat) (D : DataW Unit) : Prop := w.ownsMap Tryz.prog 215 (plainElem Tryz.prog 4) b n D
set_option maxRecDepth 100000 in
theorem keys_look {w : World} {b n : Nat} {D : DataW Unit} {L : List SlotD} {x : SlotD} (ho : keysAt w b n D) (hk : keysAre D L) (h1 : x.1.size ≤ maxLen) (h2 : x.2.1.size ≤ maxLen) :
    (Instr.lookup 213 (.map (some b)) (.agg #[.string x.1, .string x.2.1]) false).run Tryz.prog w = .ok (.bool (L.any (isSlot x.1 x.2.1))) w :=
  look_bool_run lawKey Tryz.underlying213 Tryz.underlying4 (zeroBool w) ho (keyOf_slot _ _ h1 h2) (hk.at_ _ _ h1 h2)
set_option maxRecDepth 100000 in
theorem keysAt_below {w w' : World} {b n C : Nat} {D : DataW Unit} (h : keysAt w b n D) (hb : Below C w w') (hC : b < C) : keysAt w' b n D := by
  obtain ⟨es, clock, h1, rest⟩ := h
  exact ⟨es, clock, (hb.block b hC).trans h1, rest⟩
set_option maxRecDepth 100000 in
set_option maxHeartbeats 3200000 in
theorem implSlotsOk_any (hi : Nat) (v : Value) (l : List SlotD) (w : World) (hn : l.length ≤ 2000000) (hs : ∀ x ∈ l, x.1.size ≤ maxLen ∧ x.2.1.size ≤ maxLen) (h : SlotsR.rd hi w [v] l) (hh : hi ≤ w.heap.size) :
    Calls Tryz.prog 157 #[v] w fun e w' => e = .returned (.bool (slotsOk l)) ∧ Below w.heap.size w w' := by
  obtain ⟨A, c, rfl, hc, h⟩ := slots_rd h
  have HR := Lib.hid h
  have HS := Lib.hid hs
  clear h hs
  by_cases hbig : 6 < l.length
  · have HV : Hid (slotsOk l = false) := Lib.hid (by unfold slotsOk; rw [decide_eq_false (by omega), Bool.and_false])
    have g0 : (6 : Int) < (l.length : Int) := by omega
    go_enter Tryz.func157, Tryz.ntmps157
    go_wp2
    go_ret
    exact ⟨ret_bool HV.out.symm, Below.refl _ _⟩
  have g0 : ¬ (6 : Int) < (l.length : Int) := by omega
  have hmm := @run_makeMap Tryz.prog
  have HO0 := Lib.hid (World.ownsMap_made w Tryz.prog 215 (plainElem (H := Unit) Tryz.prog 4))
  have HB0 : Hid (Below w.heap.size w (w.alloc (.map #[] 0))) := Lib.hid ((Below.refl _ _).alloc (Nat.le_refl _) _)
  have z0 : w.heap.size < (w.alloc (.map #[] 0)).heap.size := by simp
  go_enter Tryz.func157, Tryz.ntmps157
  go_wp2
  go_loopw [13] (fun iv wr => ∃ (i : Nat) (D : DataW Unit), i ≤ l.length ∧ iv = .int .i64 i ∧ Hid (∀ j, j < i → slotAtOk l j = true) ∧ Hid (keysAt wr w.heap.size i D) ∧ Hid (keysAre D (l.take i)) ∧ Hid (Below w.heap.size w wr) ∧ w.heap.size < wr.heap.size) (fun iv _ => l.length - (intOf iv).toNat)
  case atStart => exact ⟨0, _, Nat.zero_le _, rfl, Lib.hid (fun j hj => absurd hj (by omega)), HO0, Lib.hid keysAre.start, HB0, z0⟩
  case round =>
    obtain ⟨i, D, hi', rfl, HN, HO, HD, HB, hz⟩ := hrel
    by_cases hin : i < l.length
    · obtain ⟨x, hx⟩ : ∃ x, l[i]? = some x := ⟨_, List.getElem?_eq_getElem hin⟩
      obtain ⟨b, off, A', c', rfl, hbl, d0, d1, d2, hrd⟩ := HR.out i x hx
      obtain ⟨hs1, hs2⟩ := HS.out x (List.mem_of_getElem? hx)
      have d0 := (HB.out.cell (p := ⟨b, off + i * 3, none⟩) (show b < w.heap.size by omega)).trans d0
      have d1 := (HB.out.cell (p := ⟨b, off + i * 3 + 1, none⟩) (show b < w.heap.size by omega)).trans d1
      have d2 := (HB.out.cell (p := ⟨b, off + i * 3 + 2, none⟩) (show b < w.heap.size by omega)).trans d2
      have HRD := Lib.hid hrd
      have HAT := Lib.hid (slot_at hx)
      have HTK : Hid (l.take (i + 1) = l.take i ++ [x]) := Lib.hid (by
        obtain ⟨h1, h2⟩ := List.getElem?_eq_some_iff.1 hx
        rw [List.take_succ_eq_append_getElem h1, h2])
      have HALL : Hid (((l.take i).all fun y => !isSlot x.1 x.2.1 y) = !(l.take i).any (isSlot x.1 x.2.1)) := Lib.hid (by rw [List.all_eq_not_any_not]; simp)
      have HSZ := Lib.hid (And.intro hs1 hs2)
      have g1 : (i : Int) < (l.length : Int) := by omega
      have g2 : 0 ≤ (i : Int) := by omega
      have g3 : (i : Int) ≤ (c : Int) := by omega
      clear hx hrd
      go_upto_region 7 with fail
      obtain ⟨W3, hW3⟩ : ∃ W3, W3 = wr.alloc (.cells #[.string x.1, .string x.2.1, .slice A' x.2.2.length c'] 176) := ⟨_, rfl⟩
      have b3 : bk W3 wr.heap.size 176 [.string x.1, .string x.2.1, .slice A' x.2.2.length c'] := by rw [hW3]; exact bk.new wr _ _
      have hb3 : Below wr.heap.size wr W3 := by rw [hW3]; exact (Below.refl _ _).alloc (Nat.le_refl _) _
      rw [← hW3]
      clear hW3
      have z3 := b3.lt
      have HB3 : Hid (Below w.heap.size w W3) := Lib.hid (HB.out.trans (hb3.mono (by omega)))
      have HO3 : Hid (keysAt W3 w.heap.size i D) := Lib.hid (keysAt_below HO.out hb3 (by omega))
      have HX3 := Lib.hid b3
      obtain ⟨q0, q1, q2⟩ := b3.cells3
      have HKY := Lib.hid (implKeyOf_any A' x.2.2.length c' x.1 x.2.1 W3)
      clear b3 hb3 HB HO d0 d1 d2
      go_wp2_with fail
      refine HKY.out.mono ?_
      rintro e w4 ⟨rfl, hb4⟩
      have z4 := hb4.size
      have HB4 : Hid (Below w.heap.size w w4) := Lib.hid (HB3.out.trans (hb4.mono (by omega)))
      have HX4 := Lib.hid (HX3.out.below hb4 z3)
      have HO4 : Hid (keysAt w4 w.heap.size i D) := Lib.hid (keysAt_below HO3.out hb4 (by omega))
      clear hb4 HX3 HB3 q0 q1 q2 HKY HO3
      go_upto_region 8 with fail
      obtain ⟨W5, hW5⟩ : ∃ W5, W5 = w4.alloc (.cells #[.string x.1, .string x.2.1] 215) := ⟨_, rfl⟩
      have b5 : bk W5 w4.heap.size 215 [.string x.1, .string x.2.1] := by rw [hW5]; exact bk.new w4 _ _
      have hb5 : Below w4.heap.size w4 W5 := by rw [hW5]; exact (Below.refl _ _).alloc (Nat.le_refl _) _
      rw [← hW5]
      clear hW5
      have z5 := b5.lt
      have HB5 : Hid (Below w.heap.size w W5) := Lib.hid (HB4.out.trans (hb5.mono (by omega)))
      have HX5 := Lib.hid (HX4.out.below hb5 (by omega))
      have HO5 : Hid (keysAt W5 w.heap.size i D) := Lib.hid (keysAt_below HO4.out hb5 (by omega))
      have HOK := Lib.hid (implSlotOk_any hi _ x W5 hs1 hs2 (HRD.out.below HB5.out hh))
      have HK5 := Lib.hid b5
      obtain ⟨q0, q1, q2⟩ := HX5.out.cells3
      clear b5 hb5 HX4 HB4 HO4 HRD
      generalize slotOk x = ok at HOK HAT
      go_wp2_with fail
      refine HOK.out.mono ?_
      rintro e w6 ⟨rfl, hb6⟩
      have z6 := hb6.size
      have HB6 : Hid (Below w.heap.size w w6) := Lib.hid (HB5.out.trans (hb6.mono (by omega)))
      have HO6 : Hid (keysAt w6 w.heap.size i D) := Lib.hid (keysAt_below HO5.out hb6 (by omega))
      have b6 := HK5.out.below hb6 (by omega)
      have k0 := b6.cell 0
      have k1 := b6.cell 1
      simp only [List.getElem?_cons_zero, List.getElem?_cons_succ] at k0 k1
      clear hb6 HX5 HB5 q0 q1 q2 HOK HO5 HK5 b6
      cases ok
      · have HV : Hid (slotsOk l = false) := Lib.hid (slots_ok_not hin (by rw [HAT.out]; rfl))
        go_wp2
        go_ret
        exact ⟨ret_bool HV.out.symm, HB6.out⟩
      have hlk := keys_look HO6.out HD.out HSZ.out.1 HSZ.out.2
      have HA2 := Lib.hid HALL.out
      clear HALL
      generalize (l.take i).any (isSlot x.1 x.2.1) = met at hlk HA2
      cases met
      · have HN2 : Hid (∀ j, j < i + 1 → slotAtOk l j = true) := Lib.hid (fun j hj => by
          by_cases e : j = i
          · subst e; rw [HAT.out, HA2.out]; rfl
          · exact HN.out j (by omega))
        have HD2 : Hid (keysAre (D.put (keyLit x.1 x.2.1) (.lit (.bool true))) (l.take (i + 1))) := Lib.hid (by rw [HTK.out]; exact HD.out.snoc HSZ.out.1 HSZ.out.2)
        have hkey := keyOf_slot x.1 x.2.1 HSZ.out.1 HSZ.out.2
        go_wp2_with (at_mapUpdate; refine wpList_mapUpdate_own _ rfl _ _ _ 213 rfl 215 4 lawKey Tryz.underlying213 _ w.heap.size i D rfl HO6.out (by unfold maxLen; omega) _ _ _ rfl rfl hkey _ [] (plainElem_bool Tryz.underlying4 true) ?_)
        intro w7 hown7 hg7
        have z7 : w6.heap.size ≤ w7.heap.size := hg7.size
        have HB7 : Hid (Below w.heap.size w w7) := Lib.hid (HB6.out.grown hg7 (by omega) (fun j hj => by cases hj; exact Nat.le_refl _))
        have HO7 : Hid (keysAt w7 w.heap.size (i + 1) (D.put (keyLit x.1 x.2.1) (.lit (.bool true)))) := Lib.hid hown7
        clear hown7 hg7 hkey hlk k0 k1
        go_wp2
        go_roundw
        case rel => exact ⟨i + 1, _, by omega, by go_num, HN2, HO7, HD2, HB7, by omega⟩
        case measure => simp [intOf] <;> omega
      · have HV : Hid (slotsOk l = false) := Lib.hid (slots_ok_not hin (by rw [HAT.out, HA2.out]; rfl))
        go_wp2
        go_ret
        exact ⟨ret_bool HV.out.symm, HB6.out⟩
    · obtain rfl : i = l.length := by omega
      have HV : Hid (slotsOk l = true) := Lib.hid (by rw [slots_ok_end HN.out]; exact decide_eq_true (by omega))
      go_wp2
      go_ret
      exact ⟨ret_bool HV.out.symm, HB.out⟩
end Go.Proofs.YtnmijppppcgobaaGreatDoor
set_option linter.unusedVariables false
namespace Go.Proofs.YtnmijppppcgobaaGreatDoor
open Go.ChangeShapes Go.WideShapes Go.ChangeAt Go.RowKit

set_option maxRecDepth 100000 in
theorem acctOk_amts (a : AcctD) : acctOk a = (acctIdB (aId a) && (amtsB (aLim a) (aPos a) (aMost a) (aSum a) && (holdsOk (aH a) && (ringOk (aR a) && (slotsOk (aS a) && decide (satVal (aPos a) (storedL (aH a)) ≤ aLim a)))))) := by
  unfold acctOk acctHead acctTail amtsB
  cases acctIdB (aId a) <;> cases inB (aLim a) 0 9007199254740992 <;> cases inB (aMost a) 0 1000 <;> cases inB (aSum a) 0 9007199254740992 <;> cases isMon (aPos a) <;> rfl
set_option maxRecDepth 100000 in
set_option maxHeartbeats 8000000 in
theorem implOk_any (hi : Nat) (id : ByteArray) (lim pos most sum : Int) (hs : List HoldD) (sp hd : Int) (cs ss : List Int) (sl : List SlotD) (vh vc vs vl : Value) (w : World) (hg : Handle w) (y0 : id.size ≤ maxLen) (z1 : hs.length ≤ 1048576) (y1 : ∀ x ∈ hs, x.1.size ≤ maxLen) (z2 : cs.length ≤ 1048576) (z3 : ss.length ≤ 1048576) (z4 : sl.length ≤ 1048576) (y4 : ∀ x ∈ sl, x.1.size ≤ maxLen ∧ x.2.1.size ≤ maxLen) (r1 : HoldsR.rd hi w [vh] hs) (r2 : rd .i64 hi w vc cs) (r3 : rd .i64 hi w vs ss) (r4 : SlotsR.rd hi w [vl] sl) (hh : hi ≤ w.heap.size) :
    Calls Tryz.prog 79 #[.agg #[.int .i64 lim, .int .i64 pos, .int .i64 most, .int .i64 sum, .string id, vh, .int .i64 sp, .int .i64 hd, vc, vs, vl]] w fun e w' => e = .returned (.bool (acctOk (id, lim, pos, most, sum, hs, (sp, hd, cs, ss), sl))) ∧ Below w.heap.size w w' := by
  have HE : Hid (acctOk (id, lim, pos, most, sum, hs, (sp, hd, cs, ss), sl) = (acctIdB id && (amtsB lim pos most sum && (holdsOk hs && (ringOk (sp, hd, cs, ss) && (slotsOk sl && decide (satVal pos (storedL hs) ≤ lim))))))) := Lib.hid (acctOk_amts _)
  obtain ⟨AH, cH, rfl, -⟩ := Rep.slice_form r1
  obtain ⟨AC, cC, rfl, -⟩ := r2.form
  obtain ⟨AS, cS, rfl, -⟩ := r3.form
  obtain ⟨AL, cL, rfl, -⟩ := Rep.slice_form r4
  have HQ1 := Lib.hid (fun V (hV : Below w.heap.size w V) => implAcctIdOk_any id V y0)
  have HQ2 := Lib.hid (fun V (hV : Below w.heap.size w V) => implInRange_any lim pos most sum V)
  have HQ3 := Lib.hid (fun V (hV : Below w.heap.size w V) => implHoldsOk_any hi _ hs V z1 y1 (Rep.below (R := HoldsR) r1 hV hh) (Nat.le_trans hh hV.size))
  have HQ4 := Lib.hid (fun V (hV : Below w.heap.size w V) => implRingOk_any hi _ _ (sp, hd, cs, ss) V (r2.below hV hh) (r3.below hV hh) (Nat.le_trans hh hV.size) z2 z3)
  have HQ5 := Lib.hid (fun V (hV : Below w.heap.size w V) => implSlotsOk_any hi _ sl V (by omega) y4 (Rep.below (R := SlotsR) r4 hV hh) (Nat.le_trans hh hV.size))
  have HQ6 := Lib.hid (fun V (hV : Below w.heap.size w V) => implStored_any hi _ hs V (hg.below hV (Nat.le_refl _)) z1 (Rep.below (R := HoldsR) r1 hV hh) (Nat.le_trans hh hV.size))
  have HQ7 := Lib.hid (fun V (hV : Below w.heap.size w V) => implCovers_any lim pos most sum (storedL hs) V (hg.below hV (Nat.le_refl _)))
  clear r1 r2 r3 r4 y0 y1 y4 hg
  generalize decide (satVal pos (storedL hs) ≤ lim) = t6 at HE HQ7
  generalize storedL hs = st at HQ6 HQ7
  generalize acctOk (id, lim, pos, most, sum, hs, (sp, hd, cs, ss), sl) = res at HE ⊢
  generalize acctIdB id = t1 at HE HQ1
  generalize amtsB lim pos most sum = t2 at HE HQ2
  generalize holdsOk hs = t3 at HE HQ3
  generalize ringOk (sp, hd, cs, ss) = t4 at HE HQ4
  generalize slotsOk sl = t5 at HE HQ5
  go_enter Tryz.func79, Tryz.ntmps79
  go_upto_region 1 with fail
  obtain ⟨W, hW⟩ : ∃ W, W = w.alloc (.cells #[.int .i64 lim, .int .i64 pos, .int .i64 most, .int .i64 sum, .string id, .slice AH hs.length cH, .int .i64 sp, .int .i64 hd, .slice AC cs.length cC, .slice AS ss.length cS, .slice AL sl.length cL] 97) := ⟨_, rfl⟩
  have b0 : bk W w.heap.size 97 [.int .i64 lim, .int .i64 pos, .int .i64 most, .int .i64 sum, .string id, .slice AH hs.length cH, .int .i64 sp, .int .i64 hd, .slice AC cs.length cC, .slice AS ss.length cS, .slice AL sl.length cL] := by rw [hW]; exact bk.new w _ _
  have HB0 : Hid (Below w.heap.size w W) := Lib.hid (by rw [hW]; exact (Below.refl _ _).alloc (Nat.le_refl _) _)
  rw [← hW]
  clear hW
  obtain ⟨⟨p0, p1, p2, p3, p4, p5, p6, p7, p8, p9, p10⟩, -⟩ := b0.eleven
  have z0 := b0.lt
  have P0 := Lib.hid p0
  have P1 := Lib.hid p1
  have P2 := Lib.hid p2
  have P3 := Lib.hid p3
  have P4 := Lib.hid p4
  have P5 := Lib.hid p5
  have P6 := Lib.hid p6
  have P7 := Lib.hid p7
  have P8 := Lib.hid p8
  have P9 := Lib.hid p9
  have P10 := Lib.hid p10
  clear p0 p1 p2 p3 p4 p5 p6 p7 p8 p9 p10 b0
  have HBX : Hid (∀ V, Ext W V → Below w.heap.size w V) := Lib.hid fun V hV => HB0.out.trans (hV.below.mono (by omega))
  have HX : Hid (Ext W W.drew) := Lib.hid (Ext.refl W).drew
  cases t1
  · refine quiet_region (C := Ext W) (by kernel_rfl) (by kernel_rfl) HX.out ?_
    repeat (first
      | go_big_quiet_skip
      | (go_big_quiet_want; go_big_quiet_op; go_big_quiet_on)
      | (go_big_quiet_want; go_big_quiet_op; apply Exists.intro; refine ⟨fun _ _ => rfl, ?_⟩; go_big_quiet_on)
      | (go_big_quiet_want
         apply Exists.intro
         refine ⟨fun V hV => ?_, ?_⟩
         (have q0 := hV.cell P0.out (by omega)
          have q1 := hV.cell P1.out (by omega)
          have q2 := hV.cell P2.out (by omega)
          have q3 := hV.cell P3.out (by omega)
          have q4 := hV.cell P4.out (by omega)
          have q5 := hV.cell P5.out (by omega)
          have q6 := hV.cell P6.out (by omega)
          have q7 := hV.cell P7.out (by omega)
          have q8 := hV.cell P8.out (by omega)
          have q9 := hV.cell P9.out (by omega)
          have q10 := hV.cell P10.out (by omega)
          unfold Oper.quietAt
          go_simp
          rfl)
         simp only [Act.put, List.setIfInBounds_toArray, List.set_cons_zero, List.set_cons_succ]
         go_big_quiet_on)
      | (go_big_quiet_want
         apply Exists.intro
         refine ⟨fun V hV => ?_, ?_⟩
         (unfold Oper.quietAt
          go_simp
          go_at_call 153
          (with_reducible refine (HQ1.out V (HBX.out V hV)).mono ?_)
          rintro e w4 ⟨rfl, hb4⟩
          exact ⟨rfl, hV.step hb4⟩)
         simp only [Act.put, List.setIfInBounds_toArray, List.set_cons_zero, List.set_cons_succ]
         go_big_quiet_on)
      | (go_big_quiet_want
         apply Exists.intro
         refine ⟨fun V hV => ?_, ?_⟩
         (unfold Oper.quietAt
          go_simp
          go_at_call 154
          (with_reducible refine (HQ2.out V (HBX.out V hV)).mono ?_)
          rintro e w4 ⟨rfl, hb4⟩
          exact ⟨rfl, hV.step hb4⟩)
         simp only [Act.put, List.setIfInBounds_toArray, List.set_cons_zero, List.set_cons_succ]
         go_big_quiet_on)
      | (go_big_quiet_want
         apply Exists.intro
         refine ⟨fun V hV => ?_, ?_⟩
         (unfold Oper.quietAt
          go_simp
          go_at_call 155
          (with_reducible refine (HQ3.out V (HBX.out V hV)).mono ?_)
          rintro e w4 ⟨rfl, hb4⟩
          exact ⟨rfl, hV.step hb4⟩)
         simp only [Act.put, List.setIfInBounds_toArray, List.set_cons_zero, List.set_cons_succ]
         go_big_quiet_on)
      | (go_big_quiet_want
         apply Exists.intro
         refine ⟨fun V hV => ?_, ?_⟩
         (unfold Oper.quietAt
          go_simp
          go_at_call 156
          (with_reducible refine (HQ4.out V (HBX.out V hV)).mono ?_)
          rintro e w4 ⟨rfl, hb4⟩
          exact ⟨rfl, hV.step hb4⟩)
         simp only [Act.put, List.setIfInBounds_toArray, List.set_cons_zero, List.set_cons_succ]
         go_big_quiet_on)
      | (go_big_quiet_want
         apply Exists.intro
         refine ⟨fun V hV => ?_, ?_⟩
         (unfold Oper.quietAt
          go_simp
          go_at_call 157
          (with_reducible refine (HQ5.out V (HBX.out V hV)).mono ?_)
          rintro e w4 ⟨rfl, hb4⟩
          exact ⟨rfl, hV.step hb4⟩)
         simp only [Act.put, List.setIfInBounds_toArray, List.set_cons_zero, List.set_cons_succ]
         go_big_quiet_on)
      | (go_big_quiet_want
         apply Exists.intro
         refine ⟨fun V hV => ?_, ?_⟩
         (unfold Oper.quietAt
          go_simp
          go_at_call 24
          (with_reducible refine (HQ6.out V (HBX.out V hV)).mono ?_)
          rintro e w4 ⟨rfl, hb4⟩
          exact ⟨rfl, hV.step hb4⟩)
         simp only [Act.put, List.setIfInBounds_toArray, List.set_cons_zero, List.set_cons_succ]
         go_big_quiet_on)
      | (go_big_quiet_want
         apply Exists.intro
         refine ⟨fun V hV => ?_, ?_⟩
         (unfold Oper.quietAt
          go_simp
          go_at_call 158
          (with_reducible refine (HQ7.out V (HBX.out V hV)).mono ?_)
          rintro e w4 ⟨rfl, hb4⟩
          exact ⟨rfl, hV.step hb4⟩)
         simp only [Act.put, List.setIfInBounds_toArray, List.set_cons_zero, List.set_cons_succ]
         go_big_quiet_on)
      | fail)
    refine wpQuiet_nil ?_
    intro W4 hW4
    go_wp2
    go_ret
    exact ⟨by rw [HE.out]; rfl, HBX.out W4 hW4⟩
  cases t2
  · refine quiet_region (C := Ext W) (by kernel_rfl) (by kernel_rfl) HX.out ?_
    repeat (first
      | go_big_quiet_skip
      | (go_big_quiet_want; go_big_quiet_op; go_big_quiet_on)
      | (go_big_quiet_want; go_big_quiet_op; apply Exists.intro; refine ⟨fun _ _ => rfl, ?_⟩; go_big_quiet_on)
      | (go_big_quiet_want
         apply Exists.intro
         refine ⟨fun V hV => ?_, ?_⟩
         (have q0 := hV.cell P0.out (by omega)
          have q1 := hV.cell P1.out (by omega)
          have q2 := hV.cell P2.out (by omega)
          have q3 := hV.cell P3.out (by omega)
          have q4 := hV.cell P4.out (by omega)
          have q5 := hV.cell P5.out (by omega)
          have q6 := hV.cell P6.out (by omega)
          have q7 := hV.cell P7.out (by omega)
          have q8 := hV.cell P8.out (by omega)
          have q9 := hV.cell P9.out (by omega)
          have q10 := hV.cell P10.out (by omega)
          unfold Oper.quietAt
          go_simp
          rfl)
         simp only [Act.put, List.setIfInBounds_toArray, List.set_cons_zero, List.set_cons_succ]
         go_big_quiet_on)
      | (go_big_quiet_want
         apply Exists.intro
         refine ⟨fun V hV => ?_, ?_⟩
         (unfold Oper.quietAt
          go_simp
          go_at_call 153
          (with_reducible refine (HQ1.out V (HBX.out V hV)).mono ?_)
          rintro e w4 ⟨rfl, hb4⟩
          exact ⟨rfl, hV.step hb4⟩)
         simp only [Act.put, List.setIfInBounds_toArray, List.set_cons_zero, List.set_cons_succ]
         go_big_quiet_on)
      | (go_big_quiet_want
         apply Exists.intro
         refine ⟨fun V hV => ?_, ?_⟩
         (unfold Oper.quietAt
          go_simp
          go_at_call 154
          (with_reducible refine (HQ2.out V (HBX.out V hV)).mono ?_)
          rintro e w4 ⟨rfl, hb4⟩
          exact ⟨rfl, hV.step hb4⟩)
         simp only [Act.put, List.setIfInBounds_toArray, List.set_cons_zero, List.set_cons_succ]
         go_big_quiet_on)
      | (go_big_quiet_want
         apply Exists.intro
         refine ⟨fun V hV => ?_, ?_⟩
         (unfold Oper.quietAt
          go_simp
          go_at_call 155
          (with_reducible refine (HQ3.out V (HBX.out V hV)).mono ?_)
          rintro e w4 ⟨rfl, hb4⟩
          exact ⟨rfl, hV.step hb4⟩)
         simp only [Act.put, List.setIfInBounds_toArray, List.set_cons_zero, List.set_cons_succ]
         go_big_quiet_on)
      | (go_big_quiet_want
         apply Exists.intro
         refine ⟨fun V hV => ?_, ?_⟩
         (unfold Oper.quietAt
          go_simp
          go_at_call 156
          (with_reducible refine (HQ4.out V (HBX.out V hV)).mono ?_)
          rintro e w4 ⟨rfl, hb4⟩
          exact ⟨rfl, hV.step hb4⟩)
         simp only [Act.put, List.setIfInBounds_toArray, List.set_cons_zero, List.set_cons_succ]
         go_big_quiet_on)
      | (go_big_quiet_want
         apply Exists.intro
         refine ⟨fun V hV => ?_, ?_⟩
         (unfold Oper.quietAt
          go_simp
          go_at_call 157
          (with_reducible refine (HQ5.out V (HBX.out V hV)).mono ?_)
          rintro e w4 ⟨rfl, hb4⟩
          exact ⟨rfl, hV.step hb4⟩)
         simp only [Act.put, List.setIfInBounds_toArray, List.set_cons_zero, List.set_cons_succ]
         go_big_quiet_on)
      | (go_big_quiet_want
         apply Exists.intro
         refine ⟨fun V hV => ?_, ?_⟩
         (unfold Oper.quietAt
          go_simp
          go_at_call 24
          (with_reducible refine (HQ6.out V (HBX.out V hV)).mono ?_)
          rintro e w4 ⟨rfl, hb4⟩
          exact ⟨rfl, hV.step hb4⟩)
         simp only [Act.put, List.setIfInBounds_toArray, List.set_cons_zero, List.set_cons_succ]
         go_big_quiet_on)
      | (go_big_quiet_want
         apply Exists.intro
         refine ⟨fun V hV => ?_, ?_⟩
         (unfold Oper.quietAt
          go_simp
          go_at_call 158
          (with_reducible refine (HQ7.out V (HBX.out V hV)).mono ?_)
          rintro e w4 ⟨rfl, hb4⟩
          exact ⟨rfl, hV.step hb4⟩)
         simp only [Act.put, List.setIfInBounds_toArray, List.set_cons_zero, List.set_cons_succ]
         go_big_quiet_on)
      | fail)
    refine wpQuiet_nil ?_
    intro W4 hW4
    go_wp2
    go_ret
    exact ⟨by rw [HE.out]; rfl, HBX.out W4 hW4⟩
  cases t3
  · refine quiet_region (C := Ext W) (by kernel_rfl) (by kernel_rfl) HX.out ?_
    repeat (first
      | go_big_quiet_skip
      | (go_big_quiet_want; go_big_quiet_op; go_big_quiet_on)
      | (go_big_quiet_want; go_big_quiet_op; apply Exists.intro; refine ⟨fun _ _ => rfl, ?_⟩; go_big_quiet_on)
      | (go_big_quiet_want
         apply Exists.intro
         refine ⟨fun V hV => ?_, ?_⟩
         (have q0 := hV.cell P0.out (by omega)
          have q1 := hV.cell P1.out (by omega)
          have q2 := hV.cell P2.out (by omega)
          have q3 := hV.cell P3.out (by omega)
          have q4 := hV.cell P4.out (by omega)
          have q5 := hV.cell P5.out (by omega)
          have q6 := hV.cell P6.out (by omega)
          have q7 := hV.cell P7.out (by omega)
          have q8 := hV.cell P8.out (by omega)
          have q9 := hV.cell P9.out (by omega)
          have q10 := hV.cell P10.out (by omega)
          unfold Oper.quietAt
          go_simp
          rfl)
         simp only [Act.put, List.setIfInBounds_toArray, List.set_cons_zero, List.set_cons_succ]
         go_big_quiet_on)
      | (go_big_quiet_want
         apply Exists.intro
         refine ⟨fun V hV => ?_, ?_⟩
         (unfold Oper.quietAt
          go_simp
          go_at_call 153
          (with_reducible refine (HQ1.out V (HBX.out V hV)).mono ?_)
          rintro e w4 ⟨rfl, hb4⟩
          exact ⟨rfl, hV.step hb4⟩)
         simp only [Act.put, List.setIfInBounds_toArray, List.set_cons_zero, List.set_cons_succ]
         go_big_quiet_on)
      | (go_big_quiet_want
         apply Exists.intro
         refine ⟨fun V hV => ?_, ?_⟩
         (unfold Oper.quietAt
          go_simp
          go_at_call 154
          (with_reducible refine (HQ2.out V (HBX.out V hV)).mono ?_)
          rintro e w4 ⟨rfl, hb4⟩
          exact ⟨rfl, hV.step hb4⟩)
         simp only [Act.put, List.setIfInBounds_toArray, List.set_cons_zero, List.set_cons_succ]
         go_big_quiet_on)
      | (go_big_quiet_want
         apply Exists.intro
         refine ⟨fun V hV => ?_, ?_⟩
         (unfold Oper.quietAt
          go_simp
          go_at_call 155
          (with_reducible refine (HQ3.out V (HBX.out V hV)).mono ?_)
          rintro e w4 ⟨rfl, hb4⟩
          exact ⟨rfl, hV.step hb4⟩)
         simp only [Act.put, List.setIfInBounds_toArray, List.set_cons_zero, List.set_cons_succ]
         go_big_quiet_on)
      | (go_big_quiet_want
         apply Exists.intro
         refine ⟨fun V hV => ?_, ?_⟩
         (unfold Oper.quietAt
          go_simp
          go_at_call 156
          (with_reducible refine (HQ4.out V (HBX.out V hV)).mono ?_)
          rintro e w4 ⟨rfl, hb4⟩
          exact ⟨rfl, hV.step hb4⟩)
         simp only [Act.put, List.setIfInBounds_toArray, List.set_cons_zero, List.set_cons_succ]
         go_big_quiet_on)
      | (go_big_quiet_want
         apply Exists.intro
         refine ⟨fun V hV => ?_, ?_⟩
         (unfold Oper.quietAt
          go_simp
          go_at_call 157
          (with_reducible refine (HQ5.out V (HBX.out V hV)).mono ?_)
          rintro e w4 ⟨rfl, hb4⟩
          exact ⟨rfl, hV.step hb4⟩)
         simp only [Act.put, List.setIfInBounds_toArray, List.set_cons_zero, List.set_cons_succ]
         go_big_quiet_on)
      | (go_big_quiet_want
         apply Exists.intro
         refine ⟨fun V hV => ?_, ?_⟩
         (unfold Oper.quietAt
          go_simp
          go_at_call 24
          (with_reducible refine (HQ6.out V (HBX.out V hV)).mono ?_)
          rintro e w4 ⟨rfl, hb4⟩
          exact ⟨rfl, hV.step hb4⟩)
         simp only [Act.put, List.setIfInBounds_toArray, List.set_cons_zero, List.set_cons_succ]
         go_big_quiet_on)
      | (go_big_quiet_want
         apply Exists.intro
         refine ⟨fun V hV => ?_, ?_⟩
         (unfold Oper.quietAt
          go_simp
          go_at_call 158
          (with_reducible refine (HQ7.out V (HBX.out V hV)).mono ?_)
          rintro e w4 ⟨rfl, hb4⟩
          exact ⟨rfl, hV.step hb4⟩)
         simp only [Act.put, List.setIfInBounds_toArray, List.set_cons_zero, List.set_cons_succ]
         go_big_quiet_on)
      | fail)
    refine wpQuiet_nil ?_
    intro W4 hW4
    go_wp2
    go_ret
    exact ⟨by rw [HE.out]; rfl, HBX.out W4 hW4⟩
  cases t4
  · refine quiet_region (C := Ext W) (by kernel_rfl) (by kernel_rfl) HX.out ?_
    repeat (first
      | go_big_quiet_skip
      | (go_big_quiet_want; go_big_quiet_op; go_big_quiet_on)
      | (go_big_quiet_want; go_big_quiet_op; apply Exists.intro; refine ⟨fun _ _ => rfl, ?_⟩; go_big_quiet_on)
      | (go_big_quiet_want
         apply Exists.intro
         refine ⟨fun V hV => ?_, ?_⟩
         (have q0 := hV.cell P0.out (by omega)
          have q1 := hV.cell P1.out (by omega)
          have q2 := hV.cell P2.out (by omega)
          have q3 := hV.cell P3.out (by omega)
          have q4 := hV.cell P4.out (by omega)
          have q5 := hV.cell P5.out (by omega)
          have q6 := hV.cell P6.out (by omega)
          have q7 := hV.cell P7.out (by omega)
          have q8 := hV.cell P8.out (by omega)
          have q9 := hV.cell P9.out (by omega)
          have q10 := hV.cell P10.out (by omega)
          unfold Oper.quietAt
          go_simp
          rfl)
         simp only [Act.put, List.setIfInBounds_toArray, List.set_cons_zero, List.set_cons_succ]
         go_big_quiet_on)
      | (go_big_quiet_want
         apply Exists.intro
         refine ⟨fun V hV => ?_, ?_⟩
         (unfold Oper.quietAt
          go_simp
          go_at_call 153
          (with_reducible refine (HQ1.out V (HBX.out V hV)).mono ?_)
          rintro e w4 ⟨rfl, hb4⟩
          exact ⟨rfl, hV.step hb4⟩)
         simp only [Act.put, List.setIfInBounds_toArray, List.set_cons_zero, List.set_cons_succ]
         go_big_quiet_on)
      | (go_big_quiet_want
         apply Exists.intro
         refine ⟨fun V hV => ?_, ?_⟩
         (unfold Oper.quietAt
          go_simp
          go_at_call 154
          (with_reducible refine (HQ2.out V (HBX.out V hV)).mono ?_)
          rintro e w4 ⟨rfl, hb4⟩
          exact ⟨rfl, hV.step hb4⟩)
         simp only [Act.put, List.setIfInBounds_toArray, List.set_cons_zero, List.set_cons_succ]
         go_big_quiet_on)
      | (go_big_quiet_want
         apply Exists.intro
         refine ⟨fun V hV => ?_, ?_⟩
         (unfold Oper.quietAt
          go_simp
          go_at_call 155
          (with_reducible refine (HQ3.out V (HBX.out V hV)).mono ?_)
          rintro e w4 ⟨rfl, hb4⟩
          exact ⟨rfl, hV.step hb4⟩)
         simp only [Act.put, List.setIfInBounds_toArray, List.set_cons_zero, List.set_cons_succ]
         go_big_quiet_on)
      | (go_big_quiet_want
         apply Exists.intro
         refine ⟨fun V hV => ?_, ?_⟩
         (unfold Oper.quietAt
          go_simp
          go_at_call 156
          (with_reducible refine (HQ4.out V (HBX.out V hV)).mono ?_)
          rintro e w4 ⟨rfl, hb4⟩
          exact ⟨rfl, hV.step hb4⟩)
         simp only [Act.put, List.setIfInBounds_toArray, List.set_cons_zero, List.set_cons_succ]
         go_big_quiet_on)
      | (go_big_quiet_want
         apply Exists.intro
         refine ⟨fun V hV => ?_, ?_⟩
         (unfold Oper.quietAt
          go_simp
          go_at_call 157
          (with_reducible refine (HQ5.out V (HBX.out V hV)).mono ?_)
          rintro e w4 ⟨rfl, hb4⟩
          exact ⟨rfl, hV.step hb4⟩)
         simp only [Act.put, List.setIfInBounds_toArray, List.set_cons_zero, List.set_cons_succ]
         go_big_quiet_on)
      | (go_big_quiet_want
         apply Exists.intro
         refine ⟨fun V hV => ?_, ?_⟩
         (unfold Oper.quietAt
          go_simp
          go_at_call 24
          (with_reducible refine (HQ6.out V (HBX.out V hV)).mono ?_)
          rintro e w4 ⟨rfl, hb4⟩
          exact ⟨rfl, hV.step hb4⟩)
         simp only [Act.put, List.setIfInBounds_toArray, List.set_cons_zero, List.set_cons_succ]
         go_big_quiet_on)
      | (go_big_quiet_want
         apply Exists.intro
         refine ⟨fun V hV => ?_, ?_⟩
         (unfold Oper.quietAt
          go_simp
          go_at_call 158
          (with_reducible refine (HQ7.out V (HBX.out V hV)).mono ?_)
          rintro e w4 ⟨rfl, hb4⟩
          exact ⟨rfl, hV.step hb4⟩)
         simp only [Act.put, List.setIfInBounds_toArray, List.set_cons_zero, List.set_cons_succ]
         go_big_quiet_on)
      | fail)
    refine wpQuiet_nil ?_
    intro W4 hW4
    go_wp2
    go_ret
    exact ⟨by rw [HE.out]; rfl, HBX.out W4 hW4⟩
  cases t5
  · refine quiet_region (C := Ext W) (by kernel_rfl) (by kernel_rfl) HX.out ?_
    repeat (first
      | go_big_quiet_skip
      | (go_big_quiet_want; go_big_quiet_op; go_big_quiet_on)
      | (go_big_quiet_want; go_big_quiet_op; apply Exists.intro; refine ⟨fun _ _ => rfl, ?_⟩; go_big_quiet_on)
      | (go_big_quiet_want
         apply Exists.intro
         refine ⟨fun V hV => ?_, ?_⟩
         (have q0 := hV.cell P0.out (by omega)
          have q1 := hV.cell P1.out (by omega)
          have q2 := hV.cell P2.out (by omega)
          have q3 := hV.cell P3.out (by omega)
          have q4 := hV.cell P4.out (by omega)
          have q5 := hV.cell P5.out (by omega)
          have q6 := hV.cell P6.out (by omega)
          have q7 := hV.cell P7.out (by omega)
          have q8 := hV.cell P8.out (by omega)
          have q9 := hV.cell P9.out (by omega)
          have q10 := hV.cell P10.out (by omega)
          unfold Oper.quietAt
          go_simp
          rfl)
         simp only [Act.put, List.setIfInBounds_toArray, List.set_cons_zero, List.set_cons_succ]
         go_big_quiet_on)
      | (go_big_quiet_want
         apply Exists.intro
         refine ⟨fun V hV => ?_, ?_⟩
         (unfold Oper.quietAt
          go_simp
          go_at_call 153
          (with_reducible refine (HQ1.out V (HBX.out V hV)).mono ?_)
          rintro e w4 ⟨rfl, hb4⟩
          exact ⟨rfl, hV.step hb4⟩)
         simp only [Act.put, List.setIfInBounds_toArray, List.set_cons_zero, List.set_cons_succ]
         go_big_quiet_on)
      | (go_big_quiet_want
         apply Exists.intro
         refine ⟨fun V hV => ?_, ?_⟩
         (unfold Oper.quietAt
          go_simp
          go_at_call 154
          (with_reducible refine (HQ2.out V (HBX.out V hV)).mono ?_)
          rintro e w4 ⟨rfl, hb4⟩
          exact ⟨rfl, hV.step hb4⟩)
         simp only [Act.put, List.setIfInBounds_toArray, List.set_cons_zero, List.set_cons_succ]
         go_big_quiet_on)
      | (go_big_quiet_want
         apply Exists.intro
         refine ⟨fun V hV => ?_, ?_⟩
         (unfold Oper.quietAt
          go_simp
          go_at_call 155
          (with_reducible refine (HQ3.out V (HBX.out V hV)).mono ?_)
          rintro e w4 ⟨rfl, hb4⟩
          exact ⟨rfl, hV.step hb4⟩)
         simp only [Act.put, List.setIfInBounds_toArray, List.set_cons_zero, List.set_cons_succ]
         go_big_quiet_on)
      | (go_big_quiet_want
         apply Exists.intro
         refine ⟨fun V hV => ?_, ?_⟩
         (unfold Oper.quietAt
          go_simp
          go_at_call 156
          (with_reducible refine (HQ4.out V (HBX.out V hV)).mono ?_)
          rintro e w4 ⟨rfl, hb4⟩
          exact ⟨rfl, hV.step hb4⟩)
         simp only [Act.put, List.setIfInBounds_toArray, List.set_cons_zero, List.set_cons_succ]
         go_big_quiet_on)
      | (go_big_quiet_want
         apply Exists.intro
         refine ⟨fun V hV => ?_, ?_⟩
         (unfold Oper.quietAt
          go_simp
          go_at_call 157
          (with_reducible refine (HQ5.out V (HBX.out V hV)).mono ?_)
          rintro e w4 ⟨rfl, hb4⟩
          exact ⟨rfl, hV.step hb4⟩)
         simp only [Act.put, List.setIfInBounds_toArray, List.set_cons_zero, List.set_cons_succ]
         go_big_quiet_on)
      | (go_big_quiet_want
         apply Exists.intro
         refine ⟨fun V hV => ?_, ?_⟩
         (unfold Oper.quietAt
          go_simp
          go_at_call 24
          (with_reducible refine (HQ6.out V (HBX.out V hV)).mono ?_)
          rintro e w4 ⟨rfl, hb4⟩
          exact ⟨rfl, hV.step hb4⟩)
         simp only [Act.put, List.setIfInBounds_toArray, List.set_cons_zero, List.set_cons_succ]
         go_big_quiet_on)
      | (go_big_quiet_want
         apply Exists.intro
         refine ⟨fun V hV => ?_, ?_⟩
         (unfold Oper.quietAt
          go_simp
          go_at_call 158
          (with_reducible refine (HQ7.out V (HBX.out V hV)).mono ?_)
          rintro e w4 ⟨rfl, hb4⟩
          exact ⟨rfl, hV.step hb4⟩)
         simp only [Act.put, List.setIfInBounds_toArray, List.set_cons_zero, List.set_cons_succ]
         go_big_quiet_on)
      | fail)
    refine wpQuiet_nil ?_
    intro W4 hW4
    go_wp2
    go_ret
    exact ⟨by rw [HE.out]; rfl, HBX.out W4 hW4⟩
  · refine quiet_region (C := Ext W) (by kernel_rfl) (by kernel_rfl) HX.out ?_
    repeat (first
      | go_big_quiet_skip
      | (go_big_quiet_want; go_big_quiet_op; go_big_quiet_on)
      | (go_big_quiet_want; go_big_quiet_op; apply Exists.intro; refine ⟨fun _ _ => rfl, ?_⟩; go_big_quiet_on)
      | (go_big_quiet_want
         apply Exists.intro
         refine ⟨fun V hV => ?_, ?_⟩
         (have q0 := hV.cell P0.out (by omega)
          have q1 := hV.cell P1.out (by omega)
          have q2 := hV.cell P2.out (by omega)
          have q3 := hV.cell P3.out (by omega)
          have q4 := hV.cell P4.out (by omega)
          have q5 := hV.cell P5.out (by omega)
          have q6 := hV.cell P6.out (by omega)
          have q7 := hV.cell P7.out (by omega)
          have q8 := hV.cell P8.out (by omega)
          have q9 := hV.cell P9.out (by omega)
          have q10 := hV.cell P10.out (by omega)
          unfold Oper.quietAt
          go_simp
          rfl)
         simp only [Act.put, List.setIfInBounds_toArray, List.set_cons_zero, List.set_cons_succ]
         go_big_quiet_on)
      | (go_big_quiet_want
         apply Exists.intro
         refine ⟨fun V hV => ?_, ?_⟩
         (unfold Oper.quietAt
          go_simp
          go_at_call 153
          (with_reducible refine (HQ1.out V (HBX.out V hV)).mono ?_)
          rintro e w4 ⟨rfl, hb4⟩
          exact ⟨rfl, hV.step hb4⟩)
         simp only [Act.put, List.setIfInBounds_toArray, List.set_cons_zero, List.set_cons_succ]
         go_big_quiet_on)
      | (go_big_quiet_want
         apply Exists.intro
         refine ⟨fun V hV => ?_, ?_⟩
         (unfold Oper.quietAt
          go_simp
          go_at_call 154
          (with_reducible refine (HQ2.out V (HBX.out V hV)).mono ?_)
          rintro e w4 ⟨rfl, hb4⟩
          exact ⟨rfl, hV.step hb4⟩)
         simp only [Act.put, List.setIfInBounds_toArray, List.set_cons_zero, List.set_cons_succ]
         go_big_quiet_on)
      | (go_big_quiet_want
         apply Exists.intro
         refine ⟨fun V hV => ?_, ?_⟩
         (unfold Oper.quietAt
          go_simp
          go_at_call 155
          (with_reducible refine (HQ3.out V (HBX.out V hV)).mono ?_)
          rintro e w4 ⟨rfl, hb4⟩
          exact ⟨rfl, hV.step hb4⟩)
         simp only [Act.put, List.setIfInBounds_toArray, List.set_cons_zero, List.set_cons_succ]
         go_big_quiet_on)
      | (go_big_quiet_want
         apply Exists.intro
         refine ⟨fun V hV => ?_, ?_⟩
         (unfold Oper.quietAt
          go_simp
          go_at_call 156
          (with_reducible refine (HQ4.out V (HBX.out V hV)).mono ?_)
          rintro e w4 ⟨rfl, hb4⟩
          exact ⟨rfl, hV.step hb4⟩)
         simp only [Act.put, List.setIfInBounds_toArray, List.set_cons_zero, List.set_cons_succ]
         go_big_quiet_on)
      | (go_big_quiet_want
         apply Exists.intro
         refine ⟨fun V hV => ?_, ?_⟩
         (unfold Oper.quietAt
          go_simp
          go_at_call 157
          (with_reducible refine (HQ5.out V (HBX.out V hV)).mono ?_)
          rintro e w4 ⟨rfl, hb4⟩
          exact ⟨rfl, hV.step hb4⟩)
         simp only [Act.put, List.setIfInBounds_toArray, List.set_cons_zero, List.set_cons_succ]
         go_big_quiet_on)
      | (go_big_quiet_want
         apply Exists.intro
         refine ⟨fun V hV => ?_, ?_⟩
         (unfold Oper.quietAt
          go_simp
          go_at_call 24
          (with_reducible refine (HQ6.out V (HBX.out V hV)).mono ?_)
          rintro e w4 ⟨rfl, hb4⟩
          exact ⟨rfl, hV.step hb4⟩)
         simp only [Act.put, List.setIfInBounds_toArray, List.set_cons_zero, List.set_cons_succ]
         go_big_quiet_on)
      | (go_big_quiet_want
         apply Exists.intro
         refine ⟨fun V hV => ?_, ?_⟩
         (unfold Oper.quietAt
          go_simp
          go_at_call 158
          (with_reducible refine (HQ7.out V (HBX.out V hV)).mono ?_)
          rintro e w4 ⟨rfl, hb4⟩
          exact ⟨rfl, hV.step hb4⟩)
         simp only [Act.put, List.setIfInBounds_toArray, List.set_cons_zero, List.set_cons_succ]
         go_big_quiet_on)
      | fail)
    refine wpQuiet_nil ?_
    intro W4 hW4
    go_wp2
    go_ret
    exact ⟨by rw [HE.out]; rfl, HBX.out W4 hW4⟩
set_option maxRecDepth 100000 in
set_option maxHeartbeats 1600000 in
theorem implAcctOk_any (hi : Nat) (vh vc vs vl : Value) (a : AcctD) (w : World) (hg : Handle w) (hz : acctSmall 1048576 a) (hbig : acctBig a) (h : AcctR.rd hi w (aCells a vh vc vs vl) a) (hh : hi ≤ w.heap.size) :
    Calls Tryz.prog 32 #[.agg #[.string (aId a), .int .i64 (aLim a), .int .i64 (aPos a), .int .i64 (aMost a), .int .i64 (aSum a), vh, .int .i64 (aR a).1, .int .i64 (aR a).2.1, vc, vs, vl]] w fun e w' => e = .returned (.bool (acctOk a)) ∧ Below w.heap.size w w' := by
  obtain ⟨vh0, vc0, vs0, vl0, hcs, r1, r2, r3, r4⟩ := acct_rd h
  simp only [aCells, List.cons.injEq, and_true, true_and] at hcs
  obtain ⟨rfl, rfl, rfl, rfl⟩ := hcs
  clear h
  obtain ⟨z1, z2, z3, z4, z5⟩ := hz
  obtain ⟨y0, y1, y1', y2, y3, y4, y5⟩ := hbig
  obtain ⟨id, lim, pos, most, sum, hs, ⟨sp, hd, cs, ss⟩, sl⟩ := a
  simp only [aId, aLim, aPos, aMost, aSum, aH, aS] at r1 r2 r3 r4 z1 z2 z3 z4 z5 y0 y1 y1' y2 y3 y4 y5 ⊢
  have HQ := Lib.hid (fun V (hV : Below w.heap.size w V) => implOk_any hi id lim pos most sum hs sp hd cs ss sl vh vc vs vl V (hg.below hV (Nat.le_refl _)) y0 z1 y1' z2 z3 z4 (fun x hx => ⟨(y5 x hx).1, (y5 x hx).2.1⟩) (Rep.below (R := HoldsR) r1 hV hh) (r2.below hV hh) (r3.below hV hh) (Rep.below (R := SlotsR) r4 hV hh) (Nat.le_trans hh hV.size))
  obtain ⟨AH, cH, rfl, -⟩ := Rep.slice_form r1
  obtain ⟨AC, cC, rfl, -⟩ := r2.form
  obtain ⟨AS, cS, rfl, -⟩ := r3.form
  obtain ⟨AL, cL, rfl, -⟩ := Rep.slice_form r4
  have HAO := Lib.hid (fun V => implAccountOf_any id lim pos most sum AH hs.length cH sp hd AC cs.length cC AS ss.length cS AL sl.length cL V)
  clear r1 r2 r3 r4 z5 y0 y1 y1' y2 y3 y4 y5 hg
  generalize acctOk (id, lim, pos, most, sum, hs, (sp, hd, cs, ss), sl) = res at HQ ⊢
  go_enter Tryz.func32, Tryz.ntmps32
  go_upto_region 1 with fail
  obtain ⟨W, hW⟩ : ∃ W, W = w.alloc (.cells #[.string id, .int .i64 lim, .int .i64 pos, .int .i64 most, .int .i64 sum, .slice AH hs.length cH, .int .i64 sp, .int .i64 hd, .slice AC cs.length cC, .slice AS ss.length cS, .slice AL sl.length cL] 29) := ⟨_, rfl⟩
  have b0 : bk W w.heap.size 29 [.string id, .int .i64 lim, .int .i64 pos, .int .i64 most, .int .i64 sum, .slice AH hs.length cH, .int .i64 sp, .int .i64 hd, .slice AC cs.length cC, .slice AS ss.length cS, .slice AL sl.length cL] := by rw [hW]; exact bk.new w _ _
  have HB0 : Hid (Below w.heap.size w W) := Lib.hid (by rw [hW]; exact (Below.refl _ _).alloc (Nat.le_refl _) _)
  rw [← hW]
  clear hW
  obtain ⟨⟨p0, p1, p2, p3, p4, p5, p6, p7, p8, p9, p10⟩, -⟩ := b0.eleven
  have z0 := b0.lt
  clear b0
  go_wp2_with fail
  refine (HAO.out W).mono ?_
  rintro e w1 ⟨rfl, hb1⟩
  have HB1 : Hid (Below w.heap.size w w1) := Lib.hid (HB0.out.trans (hb1.mono (by omega)))
  have x1 := hb1.size
  clear hb1 p0 p1 p2 p3 p4 p5 p6 p7 p8 p9 p10
  go_wp2_with fail
  refine (HQ.out w1 HB1.out).mono ?_
  rintro e w2 ⟨rfl, hb2⟩
  have HB2 : Hid (Below w.heap.size w w2) := Lib.hid (HB1.out.trans (hb2.mono (by omega)))
  clear hb2
  go_wp2
  go_ret
  exact ⟨rfl, HB2.out⟩
set_option maxRecDepth 100000 in
set_option maxHeartbeats 1600000 in
theorem implHasState_any (hi : Nat) (vh vc vs vl : Value) (a : AcctD) (now : Int) (w : World) (hg : Handle w) (hz : acctSmall 1048576 a) (hbig : acctBig a) (h : AcctR.rd hi w (aCells a vh vc vs vl) a) (hh : hi ≤ w.heap.size) :
    Calls Tryz.prog 66 #[.agg #[.string (aId a), .int .i64 (aLim a), .int .i64 (aPos a), .int .i64 (aMost a), .int .i64 (aSum a), vh, .int .i64 (aR a).1, .int .i64 (aR a).2.1, vc, vs, vl], .int .i64 now] w fun e w' => e = .returned (.bool (acctOk a && timeB now)) ∧ Below w.heap.size w w' := by
  have HOK := Lib.hid (fun V (hV : Below w.heap.size w V) => implAcctOk_any hi vh vc vs vl a V (hg.below hV (Nat.le_refl _)) hz hbig (Rep.below (R := AcctR) h hV hh) (Nat.le_trans hh hV.size))
  have HTM := Lib.hid (fun V => implTime_any now V)
  obtain ⟨vh0, vc0, vs0, vl0, hcs, r1, r2, r3, r4⟩ := acct_rd h
  simp only [aCells, List.cons.injEq, and_true, true_and] at hcs
  obtain ⟨rfl, rfl, rfl, rfl⟩ := hcs
  clear h
  obtain ⟨id, lim, pos, most, sum, hs, ⟨sp, hd, cs, ss⟩, sl⟩ := a
  simp only [aId, aLim, aPos, aMost, aSum, aH, aS] at r1 r2 r3 r4 HOK ⊢
  obtain ⟨AH, cH, rfl, -⟩ := Rep.slice_form r1
  obtain ⟨AC, cC, rfl, -⟩ := r2.form
  obtain ⟨AS, cS, rfl, -⟩ := r3.form
  obtain ⟨AL, cL, rfl, -⟩ := Rep.slice_form r4
  clear r1 r2 r3 r4 hg hz hbig
  generalize acctOk (id, lim, pos, most, sum, hs, (sp, hd, cs, ss), sl) = ok at HOK ⊢
  generalize timeB now = tm at HTM ⊢
  go_enter Tryz.func66, Tryz.ntmps66
  go_upto_region 1 with fail
  obtain ⟨W, hW⟩ : ∃ W, W = w.alloc (.cells #[.string id, .int .i64 lim, .int .i64 pos, .int .i64 most, .int .i64 sum, .slice AH hs.length cH, .int .i64 sp, .int .i64 hd, .slice AC cs.length cC, .slice AS ss.length cS, .slice AL sl.length cL] 29) := ⟨_, rfl⟩
  have b0 : bk W w.heap.size 29 [.string id, .int .i64 lim, .int .i64 pos, .int .i64 most, .int .i64 sum, .slice AH hs.length cH, .int .i64 sp, .int .i64 hd, .slice AC cs.length cC, .slice AS ss.length cS, .slice AL sl.length cL] := by rw [hW]; exact bk.new w _ _
  have HB0 : Hid (Below w.heap.size w W) := Lib.hid (by rw [hW]; exact (Below.refl _ _).alloc (Nat.le_refl _) _)
  rw [← hW]
  clear hW
  obtain ⟨⟨p0, p1, p2, p3, p4, p5, p6, p7, p8, p9, p10⟩, -⟩ := b0.eleven
  have z0 := b0.lt
  clear b0
  go_wp2_with fail
  refine (HOK.out W HB0.out).mono ?_
  rintro e w1 ⟨rfl, hb1⟩
  have HB1 : Hid (Below w.heap.size w w1) := Lib.hid (HB0.out.trans (hb1.mono (by omega)))
  clear hb1 p0 p1 p2 p3 p4 p5 p6 p7 p8 p9 p10
  cases ok
  · go_wp2
    go_ret
    exact ⟨rfl, HB1.out⟩
  go_wp2_with fail
  refine (HTM.out _).mono ?_
  rintro e w2 ⟨rfl, rfl⟩
  go_wp2
  go_ret
  exact ⟨rfl, HB1.out⟩
end Go.Proofs.YtnmijppppcgobaaGreatDoor
set_option linter.unusedVariables false
namespace Go.Proofs.YtnmijppppcgobaaGreatDoor
open Go.ChangeShapes Go.WideShapes Go.ChangeAt Go.RowKit

set_option maxRecDepth 100000 in
theorem opsEqlNil (A : Option Addr) (n c n' c' : Nat) (w : World) : (binOp .eql 24 (.slice A n c) (.slice none n' c')).run Tryz.prog w = .ok (.bool A.isNone) w := Lib.run_eql_slice_nil w _ _ A n c n' c' Tryz.underlying24
set_option maxRecDepth 100000 in
set_option maxHeartbeats 1600000 in
/-- slices.Clone of numbers -/
theorem implClone_any (hi : Nat) (v : Value) (l : List Int) (w : World) (h : rd .i64 hi w v l) (hh : hi ≤ w.heap.size) (hl : l.length ≤ 1048576) :
    Calls Tryz.prog 201 #[v] w fun e w' => ∃ v', e = .returned v' ∧ nums .i64 w.heap.size w'.heap.size w' v' l ∧ Below w.heap.size w w' := by
  obtain ⟨A, c, rfl, -⟩ := h.form
  have HC := Lib.hid h
  have hq := opsEqlNil
  cases A with
  | none =>
    have hz : l = [] := by
      cases l with
      | nil => rfl
      | cons x l =>
        obtain ⟨A', c', e, -, hj⟩ := h
        obtain ⟨b, off, rfl, -⟩ := hj 0 (by simp)
        cases e
    subst hz
    clear h
    go_enter Tryz.func201, Tryz.ntmps201
    go_wp2
    go_ret
    exact ⟨_, rfl, nums_none _ _ _ _, Below.refl _ _⟩
  | some a =>
    clear h
    go_enter Tryz.func201, Tryz.ntmps201
    have y0 : w.heap.size < w.heap.size + 1 := by omega
    go_wp2_with (at_builtin; refine app_all (w.alloc (.cells #[] 3)) rfl _ _ 24 rfl w.heap.size 3 .i64 8 Tryz.underlying24 infoI64 _ [] rfl (ow_void _ _ w) hi _ l (by rfl) (HC.out.below ((Below.refl w.heap.size w).alloc (by omega) _) hh) (by unfold maxLen; simp; omega) (by simp; omega) (by simp) ?_)
    intro v1 w1 hv1 hg1 hb1
    have hn1 := hv1.nums
    go_wp2
    go_ret
    exact ⟨_, rfl, hn1.mono (Nat.le_refl _) (Nat.le_refl _), ((Below.refl _ _).alloc (Nat.le_refl _) _).trans hb1⟩
/-- all up to block g is as in W; block g + 1, a ring of the call's own, may be written -/
structure Copying (g : Nat) (W V : World) : Prop where
  low : Below (g + 1) W V
  own : ∃ a b c d, bk V (g + 1) 26 [a, b, c, d]
set_option maxRecDepth 100000 in
theorem Copying.step {g : Nat} {W V V' : World} (h : Copying g W V) (hb : Below V.heap.size V V') : Copying g W V' := by
  obtain ⟨h1, a, b, c, d, h2⟩ := h
  exact ⟨h1.trans (hb.mono (by have := h2.lt; omega)), a, b, c, d, h2.below hb h2.lt⟩
set_option maxRecDepth 100000 in
theorem Copying.set {g : Nat} {W V : World} (h : Copying g W V) (i : Nat) (v : Value) : Copying g W (V.setCell ⟨g + 1, i, none⟩ v) := by
  obtain ⟨h1, a, b, c, d, h2⟩ := h
  refine ⟨h1.setCell (p := ⟨_, _, none⟩) (Nat.le_refl _) _, ?_⟩
  have h3 := h2.set i v
  match i with
  | 0 => exact ⟨_, _, _, _, h3⟩
  | 1 => exact ⟨_, _, _, _, h3⟩
  | 2 => exact ⟨_, _, _, _, h3⟩
  | 3 => exact ⟨_, _, _, _, h3⟩
  | n + 4 => exact ⟨_, _, _, _, h3⟩
set_option maxRecDepth 100000 in
theorem Copying.cells {g : Nat} {W V : World} {t : TypeId} {x y z u : Value} (h : Copying g W V) (hb : bk W g t [x, y, z, u]) : V.cell? ⟨g, 0, none⟩ = some x ∧ V.cell? ⟨g, 1, none⟩ = some y ∧ V.cell? ⟨g, 2, none⟩ = some z ∧ V.cell? ⟨g, 3, none⟩ = some u :=
  (hb.below h.low (Nat.lt_succ_self _)).cells.1
set_option maxRecDepth 100000 in
set_option maxHeartbeats 4000000 in
theorem implCopy_any (hi : Nat) (vc vs : Value) (r : RingD) (w : World) (h1 : rd .i64 hi w vc r.2.2.1) (h2 : rd .i64 hi w vs r.2.2.2) (hh : hi ≤ w.heap.size) (hc : r.2.2.1.length ≤ 1048576) (hs : r.2.2.2.length ≤ 1048576) :
    Calls Tryz.prog 134 #[.agg #[.int .i64 r.1, .int .i64 r.2.1, vc, vs]] w (ringOne r w) := by
  obtain ⟨sp, hd, cs, ss⟩ := r
  simp only at h1 h2 hc hs ⊢
  obtain ⟨A1, c1, rfl, -⟩ := h1.form
  obtain ⟨A2, c2, rfl, -⟩ := h2.form
  go_enter Tryz.func134, Tryz.ntmps134
  go_upto_region 1 with fail
  obtain ⟨W, hW⟩ : ∃ W, W = (w.alloc (.cells #[.int .i64 sp, .int .i64 hd, .slice A1 cs.length c1, .slice A2 ss.length c2] 26)).alloc (.cells #[.int .i64 0, .int .i64 0, .slice none 0 0, .slice none 0 0] 26) := ⟨_, rfl⟩
  have b0 : bk W w.heap.size 26 [.int .i64 sp, .int .i64 hd, .slice A1 cs.length c1, .slice A2 ss.length c2] := by rw [hW]; exact (bk.new w _ _).alloc _
  have b1 : bk W (w.heap.size + 1) 26 [.int .i64 0, .int .i64 0, .slice none 0 0, .slice none 0 0] := by rw [hW]; simpa using bk.new (w.alloc _) _ _
  have HB0 : Hid (Below w.heap.size w W) := Lib.hid (by rw [hW]; exact ((Below.refl _ _).alloc (Nat.le_refl _) _).alloc (by simp) _)
  have z0 : w.heap.size + 2 ≤ W.heap.size := by rw [hW]; simp
  rw [← hW]
  clear hW
  have hbx : ∀ V, Copying w.heap.size W V → Below w.heap.size w V := fun V hV => HB0.out.trans (hV.low.mono (by omega))
  have hbz : ∀ V, Copying w.heap.size W V → w.heap.size + 2 ≤ V.heap.size := fun V hV => Nat.le_trans z0 hV.low.size
  have HCC := Lib.hid (fun V (hV : Copying w.heap.size W V) => implClone_any hi _ cs V (h1.below (hbx V hV) hh) (Nat.le_trans hh (hbx V hV).size) hc)
  have HCS := Lib.hid (fun V (hV : Copying w.heap.size W V) => implClone_any hi _ ss V (h2.below (hbx V hV) hh) (Nat.le_trans hh (hbx V hV).size) hs)
  have HCL := Lib.hid (fun V (hV : Copying w.heap.size W V) => hV.cells b0)
  have HBX := Lib.hid hbx
  have HBZ := Lib.hid hbz
  have E0 : Copying w.heap.size W W.drew := ⟨(Below.refl _ _).drew, _, _, _, _, b1⟩
  obtain ⟨⟨p0, p1, p2, p3⟩, -⟩ := b0.cells
  clear h1 h2 b0 b1 hbx hbz
  go_region_held3 (fun V => V.cell? ⟨w.heap.size, 0, none⟩ = some (.int .i64 sp) ∧ V.cell? ⟨w.heap.size, 1, none⟩ = some (.int .i64 hd) ∧ V.cell? ⟨w.heap.size, 2, none⟩ = some (.slice A1 cs.length c1) ∧ V.cell? ⟨w.heap.size, 3, none⟩ = some (.slice A2 ss.length c2) ∧ Copying w.heap.size W V) (go_keep) (first | (go_at_call 201; refine (HCC.out _ (by assumption)).mono ?_; rintro e w2 ⟨v2, rfl, hm2, hb2⟩; have E2 : Copying w.heap.size W w2 := Copying.step (by assumption) hb2; obtain ⟨q0, q1, q2, q3⟩ := HCL.out w2 E2; obtain ⟨AU, cU, rfl, -⟩ := hm2.form; have HU := Lib.hid hm2; have HB2 := Lib.hid hb2; clear hm2 hb2) | (go_at_call 201; refine (HCS.out _ (by assumption)).mono ?_; rintro e w3 ⟨v3, rfl, hm3, hb3⟩; have E3 : Copying w.heap.size W w3 := Copying.step (by assumption) hb3; obtain ⟨r0, r1, r2, r3⟩ := HCL.out w3 E3; obtain ⟨AV, cV, rfl, -⟩ := hm3.form; obtain ⟨a, b, c, d, B1⟩ := E3.own; obtain ⟨⟨s0, s1, s2, s3⟩, f0, f1, f2, f3⟩ := B1.cells; have HB1 := Lib.hid B1; have HV := Lib.hid hm3; have HB3 := Lib.hid hb3; clear hm3 hb3 B1; have E4 := (((E3.set 0 (.int .i64 sp)).set 1 (.int .i64 hd)).set 2 (.slice AU cs.length cU)).set 3 (.slice AV ss.length cV)))
  rename_i hX
  have z1 : w.heap.size + 2 ≤ W.drew.heap.size := HBZ.out _ E0
  have z2 := HB2.out.size
  have z3 := HB3.out.size
  have HU3 := Lib.hid (HU.out.below HB3.out (Nat.le_refl _))
  have HB4 := Lib.hid (HBX.out w3 E3)
  clear hX E0 E2 E3 E4 p0 p1 p2 p3 q0 q1 q2 q3 r0 r1 r2 r3 HCC HCS HCL
  go_wp2
  refine bodyPost_ret (v := .agg #[.int .i64 sp, .int .i64 hd, .slice AU cs.length cU, .slice AV ss.length cV]) (by simp [results, Tryz.results134, go_sem, s0, s1, s2, s3]) rfl ?_
  have ht := ((((Turned.refl (w.heap.size + 1) (w.heap.size + 2) w3).set (b := w.heap.size + 1) 0 (.int .i64 sp) (by omega) (by omega)).set (b := w.heap.size + 1) 1 (.int .i64 hd) (by omega) (by omega)).set (b := w.heap.size + 1) 2 (.slice AU cs.length cU) (by omega) (by omega)).set (b := w.heap.size + 1) 3 (.slice AV ss.length cV) (by omega) (by omega)
  have hsz := ht.size
  exact ⟨_, _, rfl, ring_mine_of ((HU3.out.turned ht (.inr (by omega)) (by omega)).mono (by omega) (by omega)) ((HV.out.turned ht (.inr (by omega)) (by omega)).mono (by omega) (by omega)) (fun b h h' => by have h5 := HU3.out.blk b h; have h6 := HV.out.blk b h'; omega), HB4.out.trans (ht.below (by omega) (by omega))⟩
end Go.Proofs.YtnmijppppcgobaaGreatDoor
set_option linter.unusedVariables false
namespace Go.Proofs.YtnmijppppcgobaaGreatDoor
open Go.ChangeShapes Go.WideShapes Go.ChangeAt Go.RowKit

set_option maxRecDepth 100000 in
set_option maxHeartbeats 1600000 in
theorem bytesClone_any (hi : Nat) (v : Value) (l : List Int) (w : World) (hl : l.length ≤ 1048576) (h : rd .u8 hi w v l) (hh : hi ≤ w.heap.size) :
    Calls Tryz.prog 203 #[v] w fun e w' => ∃ v', e = .returned v' ∧ nums .u8 w.heap.size w'.heap.size w' v' l ∧ Below w.heap.size w w' := by
  obtain ⟨A, c, rfl, -⟩ := h.form
  have HC := Lib.hid h
  have hq : ∀ (w : World) (a : Option Addr) (n c n' c' : Nat), (binOp .eql 22 (.slice a n c) (.slice none n' c')).run Tryz.prog w = .ok (.bool a.isNone) w := fun w a n c n' c' => Lib.run_eql_slice_nil w _ _ a n c n' c' Tryz.underlying22
  cases A with
  | none =>
    have hz : l = [] := by
      cases l with
      | nil => rfl
      | cons x l =>
        obtain ⟨A', c', e, -, hj⟩ := h
        obtain ⟨b, off, rfl, -⟩ := hj 0 (by simp)
        cases e
    subst hz
    clear h
    go_enter Tryz.func203, Tryz.ntmps203
    go_wp2
    go_ret
    exact ⟨_, rfl, nums_none _ _ _ _, Below.refl _ _⟩
  | some a =>
    clear h
    go_enter Tryz.func203, Tryz.ntmps203
    have y0 : w.heap.size < w.heap.size + 1 := by omega
    go_wp2_with (at_builtin; refine app_all (w.alloc (.cells #[] 5)) rfl _ _ 22 rfl w.heap.size 5 .u8 1 Tryz.underlying22 infoU8 _ [] rfl (ow_made _ _ w) hi _ l (by rfl) (HC.out.below ((Below.refl w.heap.size w).alloc (by omega) _) hh) (by unfold maxLen; simp; omega) (by simp; omega) (by simp) ?_)
    intro v1 w1 hv1 hg1 hb1
    have hn1 := hv1.nums
    go_wp2
    go_ret
    exact ⟨_, rfl, hn1.mono (Nat.le_refl _) (Nat.le_refl _), ((Below.refl _ _).alloc (Nat.le_refl _) _).trans hb1⟩
end Go.Proofs.YtnmijppppcgobaaGreatDoor
